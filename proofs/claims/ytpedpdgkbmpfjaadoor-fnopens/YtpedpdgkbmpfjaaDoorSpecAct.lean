/- The specification's Act, walked. Made by program (SpecAct.py). -/
import Derived.Test.YtpedpdgkbmpfjaaDoorSpecAll
import Derived.Test.YtpedpdgkbmpfjaaDoorSpecCmd
import Derived.Test.YtpedpdgkbmpfjaaDoorMapOk
import Derived.Test.YtpedpdgkbmpfjaaDoorAgg
import Derived.Test.YtpedpdgkbmpfjaaDoorPutting
namespace Go.Proofs.YtpedpdgkbmpfjaaDoor
open Go.RowKit
open Cmds
open Acts (decS skey sval nkey kkey sess parse Enc get nextN least pickL findS leftM openM openR)
set_option linter.unusedVariables false
set_option linter.unusedSimpArgs false
theorem good_small {T : Nat} {m : List PairL} (h : Acts.Good T m) : ∀ c ∈ m, smallPair 2097152 c := fun c hc => by
  obtain ⟨h1, h2, h3⟩ := h.ok c hc
  exact ⟨by omega, by omega⟩
theorem good_mapOk {T : Nat} {a : Option Addr} {g off cap : Nat} {m : List PairL} (h : Acts.Good T m) (hT : T ≤ 30) (w : World) (hf : PairAt w a g off m) :
    Calls Tryd.prog 18 #[.slice a m.length cap] w fun e w' => e = .returned (.bool true) ∧ Below w.heap.size w w' :=
  specMapOk_any true m (by have := h.len; omega) w hf (good_small h) ⟨fun _ => h.right hT, fun _ => rfl⟩
theorem pair_ne {w : World} {a : Option Addr} {g off B : Nat} {l : List PairL} {x y z : Int} {r : ByteArray} (h : PairAt w a g off l) (hr : w.heap[B]? = some (.cells #[.int .i64 x, .int .i64 y, .int .i64 z, .string r] 58 (0, 0))) (hl : 0 < l.length) : g ≠ B := by
  intro e
  subst e
  obtain ⟨q0, q1⟩ := h.2 0 hl
  rcases off with _ | _ | _ | _ | off
  · have := cell_of_row _ _ 0 _ _ _ hr; simp at this; simp at q0; rw [this] at q0; cases q0
  · have := cell_of_row _ _ 1 _ _ _ hr; simp at this; simp at q0; rw [this] at q0; cases q0
  · have := cell_of_row _ _ 2 _ _ _ hr; simp at this; simp at q0; rw [this] at q0; cases q0
  · simp [World.cell?, hr] at q1
  · simp [World.cell?, hr] at q0
theorem pair_set {w : World} {a : Option Addr} {g off B : Nat} {l : List PairL} (h : PairAt w a g off l) (hn : 0 < l.length → g ≠ B) (j : Nat) (v : Value) : PairAt (w.setCell ⟨B, j, none⟩ v) a g off l := by
  refine ⟨h.1, fun q hq => ?_⟩
  have e := Below.heap_setCell w ⟨B, j, none⟩ v g (by simpa using hn (by omega))
  rw [World.cell?_of_block (w := w) (a := ⟨g, off + q * 2, none⟩) e, World.cell?_of_block (w := w) (a := ⟨g, off + q * 2 + 1, none⟩) e]
  exact h.2 q hq
set_option maxRecDepth 100000 in
theorem act133 (F : Nat → Value) : Inv.act 133 [] F = ⟨#[F 0, F 1, F 2, F 3, F 4, F 5, F 6, F 7, F 8, F 9, F 10, F 11, F 12, F 13, F 14, F 15, F 16, F 17, F 18, F 19, F 20, F 21, F 22, F 23, F 24, F 25, F 26, F 27, F 28, F 29, F 30, F 31, F 32, F 33, F 34, F 35, F 36, F 37, F 38, F 39, F 40, F 41, F 42, F 43, F 44, F 45, F 46, F 47, F 48, F 49, F 50, F 51, F 52, F 53, F 54, F 55, F 56, F 57, F 58, F 59, F 60, F 61, F 62, F 63, F 64, F 65, F 66, F 67, F 68, F 69, F 70, F 71, F 72, F 73, F 74, F 75, F 76, F 77, F 78, F 79, F 80, F 81, F 82, F 83, F 84, F 85, F 86, F 87, F 88, F 89, F 90, F 91, F 92, F 93, F 94, F 95, F 96, F 97, F 98, F 99, F 100, F 101, F 102, F 103, F 104, F 105, F 106, F 107, F 108, F 109, F 110, F 111, F 112, F 113, F 114, F 115, F 116, F 117, F 118, F 119, F 120, F 121, F 122, F 123, F 124, F 125, F 126, F 127, F 128, F 129, F 130, F 131, F 132], []⟩ := by
  kernel_rfl
namespace Inv
theorem last_value {P : Program} {ops : Array Oper} {o : Oper} {k : Nat} {a : Act} {w w' : World} {v : Value} {K : Act → World → Prop} {Q : Exit → Act → World → Prop} (ho : ops[k]? = some o) (hg : o.guard = none) (he : (execOp a.eval o).run P w = .ok (.value v) w') (h : K (a.put o.dst v) w') : wpOp P ops Q k K a w := by
  unfold wpOp
  rw [ho]
  have hw : Region.wanted o (yielded ops a.tmps) = true := by simp [Region.wanted, hg]
  simp only [hw, if_true]
  left
  unfold Oper.wp
  rw [he]
  exact h
end Inv
/-- Where the loop has found it. -/
def atS (o : Option Nat) (k : Nat) : Int := match o with | none => -1 | some j => if j < k then (j : Int) else -1
theorem atS_skip {o : Option Nat} {k : Nat} (h : o ≠ some k) : atS o (k + 1) = atS o k := by
  cases o with
  | none => rfl
  | some j =>
    have : j ≠ k := fun e => h (by rw [e])
    show (if j < k + 1 then (j : Int) else -1) = if j < k then (j : Int) else -1
    by_cases x : j < k
    · rw [if_pos x, if_pos (by omega)]
    · rw [if_neg x, if_neg (by omega)]
theorem atS_new {k : Nat} : atS (some k) (k + 1) = (k : Int) := by unfold atS; simp
theorem find_none_all {m : List PairL} {L : List Ses} (hA : AllS m L) {id : Int} (h : findS m id = none) : ∀ q (hq : q < L.length), (L[q].id : Int) ≠ id := fun q hq => Acts.find_none h _ ((hA.mem _).1 (List.getElem_mem hq))
theorem find_some_all {m : List PairL} {L : List Ses} (hA : AllS m L) {id : Int} {s : Ses} (h : findS m id = some s) : ∃ j, ∃ hj : j < L.length, L[j] = s ∧ (s.id : Int) = id ∧ ∀ q (hq : q < L.length), (L[q].id : Int) = id → q = j := by
  obtain ⟨h1, h2⟩ := Acts.find_mem h
  obtain ⟨j, hj, e⟩ := List.mem_iff_getElem.1 ((hA.mem _).2 h1)
  refine ⟨j, hj, e, h2, fun q hq hqi => ?_⟩
  rcases Nat.lt_trichotomy q j with x | x | x
  · have := hA.asc q j hq hj x; rw [e] at this; omega
  · exact x
  · have := hA.asc j q hj hq x; rw [e] at this; omega
set_option maxHeartbeats 4000000 in
set_option maxRecDepth 100000 in
/-- The whole of it. -/
theorem specAct_is {T i : Nat} {a : Option Addr} {g off cap : Nat} (m : List PairL) (c : CmdL) (hG : Acts.Good T m) (hT : T ≤ 29) (hi : i ≤ 99) (hok : okC c = true) (hv : c.val.size ≤ 5) (hsz : c.key.size ≤ 1000 ∧ c.old.size ≤ 1000) (hnil : a = none → cap = 0) (w : World) (hf : PairAt w a g off m) :
    Calls Tryd.prog 8 #[.slice a m.length cap, .int .i64 (i : Int), cmdV c] w (OutT (Acts.act m i c).1 (Acts.act m i c).2 w) := by
  have hml : m.length ≤ 60 := by have := hG.len; omega
  have HF : Hid (PairAt w a g off m) := hf
  have HG : Hid (Acts.Good T m) := hG
  have HG2 : Hid (Acts.Good (T + 1) (Acts.act m i c).1) := Acts.act_good hG (by omega) hi hok hv
  have HMOK : Hid (∀ W, PairAt W a g off m → Calls Tryd.prog 18 #[.slice a m.length cap] W fun e w' => e = .returned (.bool true) ∧ Below W.heap.size W w') := fun W h => good_mapOk hG (by omega) W h
  have HCOK : Hid (∀ W, Calls Tryd.prog 23 #[.agg #[.int .i64 c.op, .int .i64 c.ses, .int .i64 c.seq, .string c.key, .string c.val, .string c.old]] W fun e w' => e = .returned (.bool true) ∧ Below W.heap.size W w') := fun W => by
    have q := specCmdOk_is c ⟨by omega, by omega, by omega⟩ W
    rw [hok] at q
    exact q
  have HIN : Hid (∀ W, Calls Tryd.prog 24 #[.int .i64 (i : Int), .int .i64 0, .int .i64 100000] W fun e w' => e = .returned (.bool true) ∧ w' = W) := fun W => in_is _ _ _ true ⟨fun _ => ⟨by omega, by omega⟩, fun _ => rfl⟩ W
  have HALL : Hid (∀ W, PairAt W a g off m → Calls Tryd.prog 25 #[.slice a m.length cap] W fun e w' => ∃ v L, e = .returned (.tuple #[v, .bool true]) ∧ AllS m L ∧ w'.ownsRow W.heap.size 58 4 v L.length (cellsSpe L) ∧ Below W.heap.size W w') := fun W h => specAll_is m (by omega) (by omega) hG.asc hG.enc W h
  have HNIL : Hid (a = none → cap = 0) := hnil
  have HC : Hid (okC c = true ∧ c.val.size ≤ 5 ∧ c.key.size ≤ 1000 ∧ c.old.size ≤ 1000) := ⟨hok, hv, hsz⟩
  obtain ⟨W0, hW0⟩ : ∃ W0, W0 = w.alloc (Obj.cells #[.int .i64 c.op, .int .i64 c.ses, .int .i64 c.seq, .string c.key, .string c.val, .string c.old] 31) := ⟨_, rfl⟩
  have HB0 : Hid (Below w.heap.size w W0) := by rw [hW0]; exact (Below.refl _ _).alloc (Nat.le_refl _) _
  have HX0 : Hid (W0.heap[w.heap.size]? = some (.cells #[.int .i64 c.op, .int .i64 c.ses, .int .i64 c.seq, .string c.key, .string c.val, .string c.old] 31 (0, 0))) := by rw [hW0]; exact heap_alloc_new w _
  obtain ⟨W1, hW1⟩ : ∃ W1, W1 = W0.alloc (Obj.cells #[] 48) := ⟨_, rfl⟩
  have HB1 : Hid (Below w.heap.size w W1) := by rw [hW1]; exact HB0.out.alloc HB0.out.size _
  have HX1 : Hid (W1.heap[w.heap.size]? = some (.cells #[.int .i64 c.op, .int .i64 c.ses, .int .i64 c.seq, .string c.key, .string c.val, .string c.old] 31 (0, 0))) := by rw [hW1]; exact (((Below.refl W0.heap.size W0).alloc (Nat.le_refl _) _).block _ (Array.getElem?_eq_some_iff.1 HX0.out).1).trans HX0.out
  clear hG hf hok hv hsz hnil
  unfold cmdV
  go_enter Tryd.func8, Tryd.ntmps8
  go_wp2_with (first | (rw [← hW0, ← hW1]; clear hW1 hW0) | fail)
  refine Calls.mono (HMOK.out W1 (HF.out.kept HB1.out)) ?_
  rintro e w2 ⟨rfl, hb2⟩
  have HB2 : Hid (Below w.heap.size w w2) := HB1.out.trans (hb2.mono HB1.out.size)
  have HX2 : Hid (w2.heap[w.heap.size]? = some (.cells #[.int .i64 c.op, .int .i64 c.ses, .int .i64 c.seq, .string c.key, .string c.val, .string c.old] 31 (0, 0))) := (hb2.block _ (Array.getElem?_eq_some_iff.1 HX1.out).1).trans HX1.out
  clear hb2 HB0 HX0 HB1 HX1 HMOK
  have x0 := cell_of_row _ _ 0 _ _ _ HX2.out
  have x1 := cell_of_row _ _ 1 _ _ _ HX2.out
  have x2 := cell_of_row _ _ 2 _ _ _ HX2.out
  have x3 := cell_of_row _ _ 3 _ _ _ HX2.out
  have x4 := cell_of_row _ _ 4 _ _ _ HX2.out
  have x5 := cell_of_row _ _ 5 _ _ _ HX2.out
  go_wp2_with fail
  refine Calls.mono (HCOK.out w2) ?_
  rintro e w3 ⟨rfl, hb3⟩
  have HB3 : Hid (Below w.heap.size w w3) := HB2.out.trans (hb3.mono HB2.out.size)
  have HX3 : Hid (w3.heap[w.heap.size]? = some (.cells #[.int .i64 c.op, .int .i64 c.ses, .int .i64 c.seq, .string c.key, .string c.val, .string c.old] 31 (0, 0))) := (hb3.block _ (Array.getElem?_eq_some_iff.1 HX2.out).1).trans HX2.out
  clear hb3 HB2 HX2 HCOK x0 x1 x2 x3 x4 x5
  go_wp2_with (first | (go_at_call 24; refine Calls.mono (HIN.out _) ?_; rintro e w4 ⟨rfl, hw⟩; subst hw) | fail)
  refine Calls.mono (HALL.out _ (HF.out.kept HB3.out)) ?_
  rintro e w5 ⟨v5, L, rfl, hall, hown5, hb5⟩
  have HA : Hid (AllS m L) := hall
  obtain ⟨la, lg, lc, rfl, hat⟩ := cellsSpe_slice hown5
  have HL5 : Hid (SpeAt w5 la lg 0 L) := hat
  have HB5 : Hid (Below w.heap.size w w5) := HB3.out.trans (hb5.mono HB3.out.size)
  have HX5 : Hid (w5.heap[w.heap.size]? = some (.cells #[.int .i64 c.op, .int .i64 c.ses, .int .i64 c.seq, .string c.key, .string c.val, .string c.old] 31 (0, 0))) := (hb5.block _ (Array.getElem?_eq_some_iff.1 HX3.out).1).trans HX3.out
  clear hb5 hown5 hall hat HB3 HX3 HALL HIN
  obtain ⟨W6, hW6⟩ : ∃ W6, W6 = w5.alloc (Obj.cells #[] 48) := ⟨_, rfl⟩
  have hb6 : Below w5.heap.size w5 W6 := by rw [hW6]; exact (Below.refl _ _).alloc (Nat.le_refl _) _
  have HB6 : Hid (Below w.heap.size w W6) := HB5.out.trans (hb6.mono HB5.out.size)
  have HX6 : Hid (W6.heap[w.heap.size]? = some (.cells #[.int .i64 c.op, .int .i64 c.ses, .int .i64 c.seq, .string c.key, .string c.val, .string c.old] 31 (0, 0))) := (hb6.block _ (Array.getElem?_eq_some_iff.1 HX5.out).1).trans HX5.out
  have HL6 : Hid (SpeAt W6 la lg 0 L) := HL5.out.kept hb6
  have HO6 : Hid (W6.ownsRow w5.heap.size 48 2 (.slice (some ⟨w5.heap.size, 0, none⟩) 0 0) 0 []) := by rw [hW6]; exact own_empty (heap_alloc_new w5 _) (Nat.le_refl _)
  have HF6 : Hid (PairAt W6 a g off m) := HF.out.kept HB6.out
  have hl5 : w5.heap.size ≤ W6.heap.size := hb6.size
  have hxl : w.heap.size < w5.heap.size := (Array.getElem?_eq_some_iff.1 HX5.out).1
  go_upto_region 8 with (first | (rw [← hW6]; clear hW6; refine wpList_appendPair rfl _ _ rfl w5.heap.size (.slice (some ⟨w5.heap.size, 0, none⟩) 0 0) 0 [] rfl HO6.out a g off cap m rfl HF6.out HNIL.out (by omega) hl5 ?_; rintro v7 w7 hown7 hg7) | fail)
  have hbw : Below w5.heap.size W6 w7 := (Below.refl _ _).grown hg7 hl5 (fun q e => by have e2 : w5.heap.size = q := Option.some.inj e; omega)
  rw [Nat.zero_add, List.nil_append] at hown7
  obtain ⟨ma, mg, mc, rfl, hat7, hn7⟩ := cellsPair_sliceN hown7
  have HN7 : Hid ((ma = none → mc = 0) ∧ R48 w7 mg m.length) := hn7
  clear hn7
  have hb57 := hb6.trans hbw
  have HB7 : Hid (Below w.heap.size w w7) := HB5.out.trans (hb57.mono HB5.out.size)
  have HX7 : Hid (w7.heap[w.heap.size]? = some (.cells #[.int .i64 c.op, .int .i64 c.ses, .int .i64 c.seq, .string c.key, .string c.val, .string c.old] 31 (0, 0))) := (hb57.block _ hxl).trans HX5.out
  have HL7 : Hid (SpeAt w7 la lg 0 L) := HL5.out.kept hb57
  have HP7 : Hid (PairAt w7 ma mg 0 m) := hat7
  clear hown7 hg7 hat7 hb57 hbw hb6 hxl hl5 HF6 HO6 HL6 HX6 HB6 HX5 HL5 HB5 HF
  have x0 := cell_of_row _ _ 0 _ _ _ HX7.out
  obtain ⟨OP, hOP⟩ : ∃ OP, OP = c.op := ⟨_, rfl⟩
  have HOP : Hid (OP = c.op) := hOP
  have HX7o := HX7
  simp only [← hOP] at x0
  by_cases h1 : OP = 1
  · have hact : Acts.act m i c = (openM m i, openR ++ decS (nextN m)) := by unfold Acts.act; rw [if_pos (by omega)]
    have HACT : Hid (Acts.act m i c = (openM m i, openR ++ decS (nextN m))) := hact
    rw [hact] at HG2
    have HOPEN : Hid (Calls Tryd.prog 26 #[.slice ma m.length mc, .int .i64 (i : Int), .slice la L.length lc] w7 (OutT (openM m i) (openR ++ decS (nextN m)) w7)) := specOpen_is m L HG.out (by omega) hi HA.out w7 HP7.out HL7.out
    have hb1 : (OP == 1) = true := by simpa using h1
    clear hact hOP HX7o HX7 HP7 HL7
    subst h1
    go_wp2_with fail
    refine Calls.mono HOPEN.out ?_
    rintro e w8 ⟨a8, g8, o8, c8, rfl, hp8, hb8, hn8⟩
    have HN8 : Hid ((a8 = none → c8 = 0) ∧ R48 w8 g8 (openM m i).length) := hn8
    clear hn8
    have HB8 : Hid (Below w.heap.size w w8) := HB7.out.trans (hb8.mono HB7.out.size)
    have HP8 : Hid (PairAt w8 a8 g8 o8 (openM m i)) := hp8
    clear hp8 hb8 HB7 x0
    go_wp2_with fail
    refine Calls.mono (good_mapOk HG2.out (by omega) w8 HP8.out) ?_
    rintro e w9 ⟨rfl, hb9⟩
    have HB9 : Hid (Below w.heap.size w w9) := HB8.out.trans (hb9.mono HB8.out.size)
    have HP9 : Hid (PairAt w9 a8 g8 o8 (openM m i)) := HP8.out.kept hb9
    have HN9 : Hid ((a8 = none → c8 = 0) ∧ R48 w9 g8 (openM m i).length) := ⟨HN8.out.1, HN8.out.2.kept hb9⟩
    clear hb9 HB8 HP8
    go_wp2
    refine bodyPost_ret (v := .tuple #[.slice a8 (openM m i).length c8, .string (openR ++ decS (nextN m)), .bool true]) (by simp [results, Tryd.results8, go_sem]) rfl ⟨a8, g8, o8, c8, by rw [HACT.out], by rw [HACT.out]; exact HP9.out, HB9.out, HN9.out.1, by rw [HACT.out]; exact HN9.out.2⟩
  · have hb1 : (OP == 1) = false := by simpa using h1
    obtain ⟨o, ho⟩ : ∃ o : Option Nat, (∀ q (hq : q < L.length), (L[q].id : Int) = c.ses → o = some q) ∧ (∀ j, o = some j → ∃ hj : j < L.length, findS m c.ses = some L[j] ∧ (L[j].id : Int) = c.ses) ∧ (o = none → findS m c.ses = none) := by
      cases hf : findS m c.ses with
      | none => exact ⟨none, fun q hq e => absurd e (find_none_all HA.out hf q hq), fun j e => by (cases e), fun _ => rfl⟩
      | some s =>
        obtain ⟨j, hj, e1, e2, e3⟩ := find_some_all HA.out hf
        exact ⟨some j, fun q hq e => by rw [e3 q hq e], fun j' e => by cases e; exact ⟨hj, by rw [e1], by rw [e1]; exact e2⟩, fun e => by (cases e)⟩
    have HO : Hid _ := ho
    have x1 := cell_of_row _ _ 1 _ _ _ HX7.out
    obtain ⟨S, hS⟩ : ∃ S, S = c.ses := ⟨_, rfl⟩
    rw [← hS] at x1
    have HS : Hid (S = c.ses) := hS
    clear hS ho
    go_upto_region 16 with fail
    have hll : L.length ≤ 3 := by rw [HA.out.len]; exact HG.out.few
    go_loopw [14, 15] (fun x y wr => ∃ k : Nat, k ≤ L.length ∧ x = .int .i64 (atS o k) ∧ y = .int .i64 (k : Int) ∧ Below w7.heap.size w7 wr) (fun _ y _ => L.length - (intOf y).toNat)
    case atStart => exact ⟨0, Nat.zero_le _, by cases o <;> rfl, rfl, Below.refl _ _⟩
    case round =>
      obtain ⟨k, hk, rfl, rfl, hbel⟩ := hrel
      by_cases hlt : k < L.length
      · obtain ⟨c0, c1, c2, c3⟩ := (HL7.out.kept hbel).2 k hlt
        have x1' : wr.cell? ⟨w.heap.size, 1, none⟩ = some (.int .i64 S) := (hbel.cell (p := ⟨w.heap.size, 1, none⟩) (Array.getElem?_eq_some_iff.1 HX7.out).1).trans x1
        rw [Nat.zero_add] at c0
        have ea := HL7.out.1 (by omega)
        subst ea
        clear c1 c2 c3
        obtain ⟨K, hK⟩ : ∃ K, K = L[k].id := ⟨_, rfl⟩
        rw [← hK] at c0
        have HK : Hid (K = L[k].id) := hK
        clear hK
        have hk0 : (0 : Int) ≤ (k : Int) := by omega
        have hk1 : (k : Int) < (L.length : Int) := by omega
        go_wp2
        have NE := Abv.ne wr
        have C2 := fun x : Abv wr => x.cell c0
        have D2 := fun x : Abv wr => x.cell x1'
        by_cases hab : (K : Int) = S
        · have t1 : ((K : Int) == S) = true := by simpa using hab
          refine wp_region_above (by kernel_rfl) (by kernel_rfl) ?_
          repeat (go_big_quiet_step (fail))
          refine wpQuiet_nil ?_
          rintro w2 ⟨⟨_, hb2⟩, rfl⟩
          clear NE C2 D2 
          go_wp2
          go_roundw
          case rel => exact ⟨k + 1, by omega, by rw [HO.out.1 k hlt (by rw [← HK.out, ← HS.out]; exact hab), atS_new], by go_num, hbel.trans (hb2.mono hbel.size)⟩
          case measure => simp [intOf]; omega
        · have t1 : ((K : Int) == S) = false := by simpa using hab
          refine wp_region_above (by kernel_rfl) (by kernel_rfl) ?_
          repeat (go_big_quiet_step (fail))
          refine wpQuiet_nil ?_
          rintro w2 ⟨⟨_, hb2⟩, rfl⟩
          clear NE C2 D2 
          go_wp2
          go_roundw
          case rel => exact ⟨k + 1, by omega, by rw [atS_skip (fun e => hab (by obtain ⟨_, _, q⟩ := HO.out.2.1 k e; rw [HK.out, HS.out]; exact q))], by go_num, hbel.trans (hb2.mono hbel.size)⟩
          case measure => simp [intOf]; omega
      · have hkl : k = L.length := by omega
        subst hkl
        have hk2 : ¬ (L.length : Int) < (L.length : Int) := by omega
        have HBR : Hid (Below w.heap.size w wr) := HB7.out.trans (hbel.mono HB7.out.size)
        have HPR : Hid (PairAt wr ma mg 0 m) := HP7.out.kept hbel
        have HNR : Hid ((ma = none → mc = 0) ∧ R48 wr mg m.length) := ⟨HN7.out.1, HN7.out.2.kept hbel⟩
        have HXR : Hid (wr.heap[w.heap.size]? = some (.cells #[.int .i64 c.op, .int .i64 c.ses, .int .i64 c.seq, .string c.key, .string c.val, .string c.old] 31 (0, 0))) := (hbel.block _ (Array.getElem?_eq_some_iff.1 HX7.out).1).trans HX7.out
        cases o with
        | none =>
          have HACT : Hid (Acts.act m i c = (m, Acts.expR)) := by
            show _ = _
            unfold Acts.act
            rw [if_neg (by rw [← HOP.out]; exact h1), HO.out.2.2 rfl]
          have e1 : atS none L.length = -1 := rfl
          rw [e1]
          go_wp2
          refine bodyPost_ret (v := .tuple #[.slice ma m.length mc, .string Acts.expR, .bool true]) (by simp [results, Tryd.results8, go_sem]; first | rfl | exact ⟨rfl, rfl⟩) rfl ⟨ma, mg, 0, mc, by rw [HACT.out], by rw [HACT.out]; exact HPR.out, HBR.out, HNR.out.1, by rw [HACT.out]; exact HNR.out.2⟩
        | some j =>
          obtain ⟨hj, hfj, hji⟩ := HO.out.2.1 j rfl
          have e1 : atS (some j) L.length = (j : Int) := by show (if j < L.length then (j : Int) else -1) = _; rw [if_pos hj]
          rw [e1]
          obtain ⟨s, hs⟩ : ∃ s, s = L[j] := ⟨_, rfl⟩
          have hsm := Acts.mem_sess (by omega : T ≤ 90) HG.out.enc ((HA.out.mem _).1 (List.getElem_mem hj))
          rw [← hs] at hfj hji hsm
          obtain ⟨c0, c1, c2, c3⟩ := (HL7.out.kept hbel).2 j hj
          have ea := HL7.out.1 (by omega)
          subst ea
          rw [← hs] at c0 c1 c2 c3
          rw [Nat.zero_add] at c0 c1 c2 c3
          have hj0 : ¬ (j : Int) < 0 := by omega
          have hj1 : (0 : Int) ≤ (j : Int) := by omega
          have hj2 : (j : Int) < (L.length : Int) := by omega
          have HFJ : Hid (findS m c.ses = some s) := hfj
          have HJI : Hid ((s.id : Int) = c.ses) := hji
          have HSM : Hid (s.id ≤ T ∧ s.seq ≤ T + 3 ∧ s.at_ ≤ 99 ∧ s.rep.size ≤ 9) := hsm.2
          have HACT0 : Hid (Acts.act m i c = if c.seq < (s.seq : Int) then (m, Acts.staleR) else if c.seq = (s.seq : Int) then (m, s.rep) else if (s.seq : Int) + 1 < c.seq then (m, Acts.gapR) else (Acts.doneM m i c, Acts.opR m c)) := by
            show _ = _
            unfold Acts.act
            rw [if_neg (by rw [← HOP.out]; exact h1), HFJ.out]
          obtain ⟨W8, hW8⟩ : ∃ W8, W8 = wr.alloc (Obj.cells #[.int .i64 (s.id : Int), .int .i64 (s.seq : Int), .int .i64 (s.at_ : Int), .string s.rep] 58) := ⟨_, rfl⟩
          have hb8 : Below wr.heap.size wr W8 := by rw [hW8]; exact (Below.refl _ _).alloc (Nat.le_refl _) _
          have HB8 : Hid (Below w.heap.size w W8) := HBR.out.trans (hb8.mono HBR.out.size)
          have HP8 : Hid (PairAt W8 ma mg 0 m) := HPR.out.kept hb8
          have HN8 : Hid ((ma = none → mc = 0) ∧ R48 W8 mg m.length) := ⟨HNR.out.1, HNR.out.2.kept hb8⟩
          have HX8 : Hid (W8.heap[w.heap.size]? = some (.cells #[.int .i64 c.op, .int .i64 c.ses, .int .i64 c.seq, .string c.key, .string c.val, .string c.old] 31 (0, 0))) := (hb8.block _ (Array.getElem?_eq_some_iff.1 HXR.out).1).trans HXR.out
          have HY8 : Hid (W8.heap[wr.heap.size]? = some (.cells #[.int .i64 (s.id : Int), .int .i64 (s.seq : Int), .int .i64 (s.at_ : Int), .string s.rep] 58 (0, 0))) := by rw [hW8]; exact heap_alloc_new wr _
          clear hfj hji hsm hs
          go_upto_region 23 with fail
          rw [← hW8]
          have HXR0 := HXR
          clear hW8 hb8 HBR HPR HXR
          have x2 := cell_of_row _ _ 2 _ _ _ HX8.out
          have y1 := cell_of_row _ _ 1 _ _ _ HY8.out
          have y3 := cell_of_row _ _ 3 _ _ _ HY8.out
          obtain ⟨P, hP⟩ : ∃ P, P = c.seq := ⟨_, rfl⟩
          obtain ⟨Q, hQ⟩ : ∃ Q, Q = s.seq := ⟨_, rfl⟩
          have HPE : Hid (P = c.seq) := hP
          have HQE : Hid (Q = s.seq) := hQ
          have hq100 : Q ≤ 100 := by have := HSM.out; omega
          rw [← hP] at x2 HACT0
          rw [← hQ] at y1 HACT0
          clear hP hQ c0 c1 c2 c3
          by_cases h2 : P < (Q : Int)
          · have HACT : Hid (Acts.act m i c = (m, Acts.staleR)) := by
              have q := HACT0.out
              rwa [if_pos h2] at q
            go_wp2
            refine bodyPost_ret (v := .tuple #[.slice ma m.length mc, .string Acts.staleR, .bool true]) (by simp [results, Tryd.results8, go_sem]; first | rfl | exact ⟨rfl, rfl⟩) rfl ⟨ma, mg, 0, mc, by rw [HACT.out], by rw [HACT.out]; exact HP8.out, HB8.out, HN8.out.1, by rw [HACT.out]; exact HN8.out.2⟩
          · by_cases h3 : P = (Q : Int)
            · have HACT : Hid (Acts.act m i c = (m, s.rep)) := by
                have q := HACT0.out
                rwa [if_neg h2, if_pos h3] at q
              subst h3
              go_upto_region 26 with fail
              go_region
              go_wp2
              refine bodyPost_ret (v := .tuple #[.slice ma m.length mc, .string s.rep, .bool true]) (by simp [results, Tryd.results8, go_sem]) rfl ⟨ma, mg, 0, mc, by rw [HACT.out], by rw [HACT.out]; exact HP8.out, HB8.out.drew, HN8.out.1, by rw [HACT.out]; exact HN8.out.2⟩
            · by_cases h4 : (Q : Int) + 1 < P
              · have HACT : Hid (Acts.act m i c = (m, Acts.gapR)) := by
                  have q := HACT0.out
                  rwa [if_neg h2, if_neg h3, if_pos h4] at q
                have hb3 : (P == (Q : Int)) = false := by simpa using h3
                go_wp2
                refine bodyPost_ret (v := .tuple #[.slice ma m.length mc, .string Acts.gapR, .bool true]) (by simp [results, Tryd.results8, go_sem]; first | rfl | exact ⟨rfl, rfl⟩) rfl ⟨ma, mg, 0, mc, by rw [HACT.out], by rw [HACT.out]; exact HP8.out, HB8.out, HN8.out.1, by rw [HACT.out]; exact HN8.out.2⟩
              · have HACT : Hid (Acts.act m i c = (Acts.doneM m i c, Acts.opR m c)) := by
                  have q := HACT0.out
                  rwa [if_neg h2, if_neg h3, if_neg h4] at q
                have HOPC : Hid (Calls Tryd.prog 27 #[.slice ma m.length mc, .agg #[.int .i64 c.op, .int .i64 c.ses, .int .i64 c.seq, .string c.key, .string c.val, .string c.old]] W8 (OutM (Acts.opM m c) (Acts.opR m c) W8)) := specOp_is m c HG.out.asc (by omega) (by have := HC.out; omega) (fun v hv => by have := HG.out.ok _ (Acts.get_mem hv); exact Nat.le_trans this.2.2 (by omega)) (by have := (Cmds.fits HC.out.1).op; rw [HOP.out] at h1; omega) W8 HP8.out
                have hb3 : (P == (Q : Int)) = false := by simpa using h3
                go_upto_region 29 with fail
                clear x2 y1 y3 hb3
                have z0 := cell_of_row _ _ 0 _ _ _ HX8.out
                have z1 := cell_of_row _ _ 1 _ _ _ HX8.out
                have z2 := cell_of_row _ _ 2 _ _ _ HX8.out
                have z3 := cell_of_row _ _ 3 _ _ _ HX8.out
                have z4 := cell_of_row _ _ 4 _ _ _ HX8.out
                have z5 := cell_of_row _ _ 5 _ _ _ HX8.out
                go_wp2_with fail
                clear z0 z1 z2 z3 z4 z5
                refine Calls.mono HOPC.out ?_
                rintro e w9 ⟨a9, g9, o9, c9, rfl, hp9, hb9⟩
                have HB9 : Hid (Below w.heap.size w w9) := HB8.out.trans (hb9.mono HB8.out.size)
                have HX9 : Hid (w9.heap[w.heap.size]? = some (.cells #[.int .i64 c.op, .int .i64 c.ses, .int .i64 c.seq, .string c.key, .string c.val, .string c.old] 31 (0, 0))) := (hb9.block _ (Array.getElem?_eq_some_iff.1 HX8.out).1).trans HX8.out
                have hy9 : w9.heap[wr.heap.size]? = some (.cells #[.int .i64 (s.id : Int), .int .i64 (s.seq : Int), .int .i64 (s.at_ : Int), .string s.rep] 58 (0, 0)) := (hb9.block _ (Array.getElem?_eq_some_iff.1 HY8.out).1).trans HY8.out
                have HNE : Hid (0 < (Acts.opM m c).length → g9 ≠ wr.heap.size) := pair_ne hp9 hy9
                have hwr : w.heap.size < wr.heap.size := (Array.getElem?_eq_some_iff.1 HXR0.out).1
                have x2 := cell_of_row _ _ 2 _ _ _ HX9.out
                have o1 := cell_of_row _ _ 1 _ _ _ hy9
                have o2 := cell_of_row _ _ 2 _ _ _ hy9
                have o3 := cell_of_row _ _ 3 _ _ _ hy9
                simp at o1 o2 o3
                have f1 := frozen_of_row _ _ 1 _ _ hy9
                have f2 := frozen_of_row _ _ 2 _ _ hy9
                have f3 := frozen_of_row _ _ 3 _ _ hy9
                have g1 := heap_setCell_same w9 wr.heap.size 1 _ 58 (.int .i64 c.seq) hy9
                have g2 := heap_setCell_same _ wr.heap.size 2 _ 58 (.int .i64 (i : Int)) g1
                have g3 := heap_setCell_same _ wr.heap.size 3 _ 58 (.string (Acts.opR m c)) g2
                simp at g3
                obtain ⟨W10, hW10⟩ : ∃ W10, W10 = ((w9.setCell ⟨wr.heap.size, 1, none⟩ (.int .i64 c.seq)).setCell ⟨wr.heap.size, 2, none⟩ (.int .i64 (i : Int))).setCell ⟨wr.heap.size, 3, none⟩ (.string (Acts.opR m c)) := ⟨_, rfl⟩
                rw [← hW10] at g3
                have HY10 : Hid (W10.heap[wr.heap.size]? = some (.cells #[.int .i64 (s.id : Int), .int .i64 c.seq, .int .i64 (i : Int), .string (Acts.opR m c)] 58 (0, 0))) := g3
                have HP10 : Hid (PairAt W10 a9 g9 o9 (Acts.opM m c)) := by rw [hW10]; exact pair_set (pair_set (pair_set hp9 HNE.out _ _) HNE.out _ _) HNE.out _ _
                have hq : w.heap.size ≤ wr.heap.size := by omega
                have HB10 : Hid (Below w.heap.size w W10) := by rw [hW10]; exact ((HB9.out.setCell hq _).setCell hq _).setCell hq _
                clear g1 g2 g3 hp9 hb9 hwr
                go_upto_region 33 with fail
                rw [← hW10]
                clear hW10 o1 o2 o3 f1 f2 f3 hy9 x2 HX9 HB9 HX8 HY8 HP8 HB8
                have hsq : 0 ≤ c.seq := (Cmds.fits HC.out.1).seq.1
                have hid : c.ses.toNat = s.id := by rw [← HJI.out]; exact Int.toNat_natCast _
                have hsqe : (c.seq.toNat : Int) = c.seq := Int.toNat_of_nonneg hsq
                have hors := Acts.opR_size HG.out.enc c
                have hopl := Acts.opM_len m c
                have hs9 : c.seq.toNat ≤ 1000000000 := by have := (Cmds.fits HC.out.1).seq.2; omega
                have HDM : Hid (Acts.doneM m i c = Maps.putK (Acts.opM m c) (skey s.id) (sval ⟨s.id, c.seq.toNat, i, Acts.opR m c⟩)) := by
                  show _ = _
                  unfold Acts.doneM
                  rw [hid]
                have HK : Hid (∀ W, Calls Tryd.prog 29 #[.int .i64 (s.id : Int)] W fun e w' => e = .returned (.string (skey s.id)) ∧ Below W.heap.size W w') := fun W => specKey_is s.id (by have := HSM.out; omega) W
                have HT : Hid (∀ W, Calls Tryd.prog 30 #[(.agg #[.int .i64 (s.id : Int), .int .i64 c.seq, .int .i64 (i : Int), .string (Acts.opR m c)])] W fun e w' => e = .returned (.string (sval ⟨s.id, c.seq.toNat, i, Acts.opR m c⟩)) ∧ Below W.heap.size W w') := fun W => by
                  have q := specText_is ⟨s.id, c.seq.toNat, i, Acts.opR m c⟩ ⟨by have := HSM.out; show s.id ≤ _; omega, hs9, by show i ≤ _; omega⟩ (by show (Acts.opR m c).size ≤ _; omega) W
                  unfold speV at q
                  simp only [hsqe] at q
                  exact q
                obtain ⟨KS, hKS⟩ : ∃ KS, KS = skey s.id := ⟨_, rfl⟩
                obtain ⟨TV, hTV⟩ : ∃ TV, TV = sval ⟨s.id, c.seq.toNat, i, Acts.opR m c⟩ := ⟨_, rfl⟩
                rw [← hKS] at HK HDM
                rw [← hTV] at HT HDM
                have HPUT : Hid (∀ W, PairAt W a9 g9 o9 (Acts.opM m c) → Calls Tryd.prog 28 #[.slice a9 (Acts.opM m c).length c9, .string KS, .string TV] W fun e w' => ∃ v, e = .returned v ∧ w'.ownsRow W.heap.size 48 2 v (Maps.putK (Acts.opM m c) KS TV).length (cellsPair (Maps.putK (Acts.opM m c) KS TV)) ∧ Below W.heap.size W w') := fun W hp => l06Put_is (Acts.opM m c) (by omega) KS TV W hp
                obtain ⟨DM, hDM⟩ : ∃ DM, DM = Maps.putK (Acts.opM m c) KS TV := ⟨_, rfl⟩
                rw [← hDM] at HPUT HDM
                clear hKS hTV hDM hid
                rename_i K0 hK0
                refine Inv.region_walk_last 133 (fun i' v X => if i' = 6 then X.ownsRow W10.heap.size 48 2 v DM.length (cellsPair DM) else v = [.slice a9 (Acts.opM m c).length c9, .pointer (some ⟨wr.heap.size, 0, none⟩), .int .i64 (s.id : Int), .string KS, (.agg #[.int .i64 (s.id : Int), .int .i64 c.seq, .int .i64 (i : Int), .string (Acts.opR m c)]), .string TV].getD i' undef) rfl (by kernel_rfl) (by kernel_rfl) (by kernel_rfl) (fun i' v X X' h hb => by
                    by_cases e : i' = 6
                    · simp only [e, if_true] at h ⊢; exact own_kept h hb
                    · simp only [e, if_false] at h ⊢; exact h) ⟨?_, ?_, ?_, ?_, ?_, ?_, ?_, trivial⟩ ?_
                · intro f X K hb hf hd hk
                  have e1 : f 12 = .slice a9 (Acts.opM m c).length c9 := hf 12 rfl
                  refine Inv.pay_value (v := .slice a9 (Acts.opM m c).length c9) (w' := X) ?_ ?_
                  · simp [execOp, go_sem, Inv.act_get, e1]
                  · exact hk (.slice a9 (Acts.opM m c).length c9) X (Below.refl _ _) rfl
                · intro f X K hb hf hd hk
                  have e1 : f 16 = .pointer (some ⟨wr.heap.size, 0, none⟩) := hf 16 rfl
                  refine Inv.pay_value (v := .pointer (some ⟨wr.heap.size, 0, none⟩)) (w' := X) ?_ ?_
                  · simp [execOp, go_sem, Inv.act_get, e1]
                  · exact hk (.pointer (some ⟨wr.heap.size, 0, none⟩)) X (Below.refl _ _) rfl
                · intro f X K hb hf hd hk
                  have d1 : f 121 = .pointer (some ⟨wr.heap.size, 0, none⟩) := hd 1 rfl
                  have q0 : X.cell? ⟨wr.heap.size, 0, none⟩ = some (.int .i64 (s.id : Int)) := cell_of_row _ _ 0 _ _ _ ((hb.block _ (Array.getElem?_eq_some_iff.1 HY10.out).1).trans HY10.out)
                  refine Inv.pay_value (v := .int .i64 (s.id : Int)) (w' := X) ?_ ?_
                  · simp [execOp, go_sem, Inv.act_get, d1, q0]
                  · exact hk (.int .i64 (s.id : Int)) X (Below.refl _ _) rfl
                · intro f X K hb hf hd hk
                  have d2 : f 122 = .int .i64 (s.id : Int) := hd 2 rfl
                  refine Inv.pay_call (f := 29) (args := #[.int .i64 (s.id : Int)]) (u := .string KS) (R := fun w' => Below X.heap.size X w') ?_ (HK.out X) (fun w5 hb5 => hk (.string KS) w5 hb5 rfl)
                  simp [execOp, go_sem, Inv.act_get, d2]
                · intro f X K hb hf hd hk
                  have e1 : f 16 = .pointer (some ⟨wr.heap.size, 0, none⟩) := hf 16 rfl
                  have hl := run_load_agg (P := Tryd.prog) Tryd.isAgg58 Tryd.sizeOf58 ((hb.block _ (Array.getElem?_eq_some_iff.1 HY10.out).1).trans HY10.out) rfl
                  refine Inv.pay_value (v := (.agg #[.int .i64 (s.id : Int), .int .i64 c.seq, .int .i64 (i : Int), .string (Acts.opR m c)])) (w' := X) ?_ ?_
                  · simp [execOp, Inv.act_eval, e1, hl, Result.andThen]
                  · exact hk (.agg #[.int .i64 (s.id : Int), .int .i64 c.seq, .int .i64 (i : Int), .string (Acts.opR m c)]) X (Below.refl _ _) rfl
                · intro f X K hb hf hd hk
                  have d4 : f 124 = (.agg #[.int .i64 (s.id : Int), .int .i64 c.seq, .int .i64 (i : Int), .string (Acts.opR m c)]) := hd 4 rfl
                  refine Inv.pay_call (f := 30) (args := #[(.agg #[.int .i64 (s.id : Int), .int .i64 c.seq, .int .i64 (i : Int), .string (Acts.opR m c)])]) (u := .string TV) (R := fun w' => Below X.heap.size X w') ?_ (HT.out X) (fun w5 hb5 => hk (.string TV) w5 hb5 rfl)
                  simp [execOp, go_sem, Inv.act_get, d4]
                · intro f X K hb hf hd hk
                  have d0 : f 120 = .slice a9 (Acts.opM m c).length c9 := hd 0 rfl
                  have d3 : f 123 = .string KS := hd 3 rfl
                  have d5 : f 125 = .string TV := hd 5 rfl
                  refine Inv.pay_callE (f := 28) (args := #[.slice a9 (Acts.opM m c).length c9, .string KS, .string TV]) (R := fun u w' => w'.ownsRow X.heap.size 48 2 u DM.length (cellsPair DM) ∧ Below X.heap.size X w') ?_ (HPUT.out X (HP10.out.kept hb)) (fun u w5 hr => hk u w5 hr.2 (own_mono hr.1 hb.size))
                  simp [execOp, go_sem, Inv.act_get, d0, d3, d5]
                · intro f w2 hb2 hf hv
                  have d6 : w2.ownsRow W10.heap.size 48 2 (f 126) DM.length (cellsPair DM) := hv 6 (by decide)
                  have e13 : f 13 = .string (Acts.opR m c) := hf 13 rfl
                  obtain ⟨a11, g11, c11, e126, hat11, hn11⟩ := cellsPair_sliceN d6
                  have HN11 : Hid ((a11 = none → c11 = 0) ∧ R48 w2 g11 DM.length) := hn11
                  clear hn11
                  have HB11 : Hid (Below w.heap.size w w2) := HB10.out.trans (hb2.mono HB10.out.size)
                  have HP11 : Hid (PairAt w2 a11 g11 0 DM) := hat11
                  have hact2 := HACT.out
                  rw [HDM.out] at hact2
                  have hg2 := HG2.out
                  rw [hact2] at hg2
                  have HACT2 : Hid (Acts.act m i c = (DM, Acts.opR m c)) := hact2
                  have HGD : Hid (Acts.Good (T + 1) DM) := hg2
                  refine Inv.last_value rfl rfl (v := .slice a11 DM.length c11) (w' := w2) ?_ ?_
                  · simp [execOp, Inv.act_eval, e126]
                  · show K0 ((Inv.act 133 [] f).put (some 12) _) _
                    rw [Inv.act_put]
                    refine hK0 _ _ ?_
                    obtain ⟨F, hF⟩ : ∃ F, F = Inv.upd f 12 (.slice a11 DM.length c11) := ⟨_, rfl⟩
                    rw [← hF, act133 F]
                    have F12 : F 12 = .slice a11 DM.length c11 := by rw [hF]; rfl
                    have F13 : F 13 = .string (Acts.opR m c) := by rw [hF]; exact e13
                    rw [F12, F13]
                    clear hF F12 F13 d6 e13 e126 hat11 hact2 hg2 hf hv hb2 HG2 HACT
                    go_wp2_with fail
                    refine Calls.mono (good_mapOk HGD.out (by omega) w2 HP11.out) ?_
                    rintro e w12 ⟨rfl, hb12⟩
                    have HB12 : Hid (Below w.heap.size w w12) := HB11.out.trans (hb12.mono HB11.out.size)
                    have HP12 : Hid (PairAt w12 a11 g11 0 DM) := HP11.out.kept hb12
                    have HN12 : Hid ((a11 = none → c11 = 0) ∧ R48 w12 g11 DM.length) := ⟨HN11.out.1, HN11.out.2.kept hb12⟩
                    clear hb12
                    go_wp2
                    refine bodyPost_ret (v := .tuple #[.slice a11 DM.length c11, .string (Acts.opR m c), .bool true]) (by simp [results, Tryd.results8, go_sem]) rfl ⟨a11, g11, 0, c11, by rw [HACT2.out], by rw [HACT2.out]; exact HP12.out, HB12.out, HN12.out.1, by rw [HACT2.out]; exact HN12.out.2⟩
end Go.Proofs.YtpedpdgkbmpfjaaDoor
