/- The specification's DrawTalks, walked: commands, each drawn for the state that those ahead of it leave. -/
import Derived.Test.YtpedpdgkbmpfjaaDoorLCm
namespace Go.Proofs.YtpedpdgkbmpfjaaDoor
open Go.RowKit
open Cmds (okC)
open Acts (sess)
set_option linter.unusedVariables false
set_option linter.unusedSimpArgs false

theorem pair_grownO {w w' : World} {r : Option Nat} {ma : Option Addr} {mg mo : Nat} {m : List PairL} (h : PairAt w ma mg mo m) (hg : w.grownBy w' r) (hne : 0 < m.length → r ≠ some mg) : PairAt w' ma mg mo m := by
  refine ⟨h.1, fun j hj => ?_⟩
  have hl := h.lt (by omega)
  have e0 : w.heap[mg]? = some w.heap[mg] := by simp [hl]
  have e : w'.heap[mg]? = w.heap[mg]? := by rw [grown_keep' e0 hg (hne (by omega)), e0]
  rw [World.cell?_of_block (w := w) (a := ⟨mg, mo + j * 2, none⟩) e, World.cell?_of_block (w := w) (a := ⟨mg, mo + j * 2 + 1, none⟩) e]
  exact h.2 j hj
theorem R48.grown {w w' : World} {r : Option Nat} {g n : Nat} (h : R48 w g n) (hg : w.grownBy w' r) (hne : 0 < n → r ≠ some g) : R48 w' g n := fun hn => by
  obtain ⟨cur, e⟩ := h hn
  exact ⟨cur, grown_keep' e hg (hne hn)⟩
/-- A row of commands is no row of pairs. -/
theorem own_not48 {w : World} {base g n k : Nat} {v : Value} {xs : List Value} (h : w.ownsRow base 31 6 v k xs) (hr : R48 w g n) (hn : 0 < n) : v.ownBlock ≠ some g := by
  rcases h.2 with ⟨h1, _⟩ | ⟨q, cap, cur, h1, _, h3, _⟩
  · rw [h1]; intro e; cases e
  · rw [h1]
    intro e
    have e2 : q = g := Option.some.inj e
    subst e2
    obtain ⟨cur', h4⟩ := hr hn
    rw [h3] at h4
    cases h4
theorem own_low {w : World} {base k q : Nat} {v : Value} {xs : List Value} (h : w.ownsRow base 31 6 v k xs) (e : v.ownBlock = some q) : base ≤ q := by
  rcases h.2 with ⟨h1, _⟩ | ⟨q', cap, cur, h1, h2, _⟩
  · rw [h1] at e; cases e
  · rw [h1] at e
    have e2 : q' = q := Option.some.inj e
    omega
theorem own_grown {w w' : World} {base n g : Nat} {v : Value} {xs : List Value} (h : w.ownsRow base 31 6 v n xs) (hg : w.grownBy w' (some g)) (hne : ∀ q, v.ownBlock = some q → q ≠ g) : w'.ownsRow base 31 6 v n xs := by
  refine ⟨h.1, ?_⟩
  rcases h.2 with h1 | ⟨q, cap, cur, h1, h2, h3, h4⟩
  · exact Or.inl h1
  · exact Or.inr ⟨q, cap, cur, h1, h2, grown_keep h3 hg (hne q (by rw [h1]; rfl)), h4⟩
theorem six_cells' {W : World} {g : Nat} {p q r : Int} {k v o : ByteArray} (h : W.heap[g]? = some (.cells #[.int .i64 p, .int .i64 q, .int .i64 r, .string k, .string v, .string o] 31 (0, 0))) :
    W.cell? ⟨g, 0, none⟩ = some (.int .i64 p) ∧ W.cell? ⟨g, 1, none⟩ = some (.int .i64 q) ∧ W.cell? ⟨g, 2, none⟩ = some (.int .i64 r) ∧ W.cell? ⟨g, 3, none⟩ = some (.string k) ∧ W.cell? ⟨g, 4, none⟩ = some (.string v) ∧ W.cell? ⟨g, 5, none⟩ = some (.string o) :=
  ⟨cell_of_row _ _ 0 _ _ _ h, cell_of_row _ _ 1 _ _ _ h, cell_of_row _ _ 2 _ _ _ h, cell_of_row _ _ 3 _ _ _ h, cell_of_row _ _ 4 _ _ _ h, cell_of_row _ _ 5 _ _ _ h⟩
/-- What is gathered of commands. -/
structure CsS (base k : Nat) (U : Value) (cs : List CmdL) (w : World) : Prop where
  own : w.ownsRow base 31 6 U cs.length (cellsCm cs)
  len : cs.length = k
  cmd : ∀ c ∈ cs, CmdX c
def TalksPost (w : World) (e : Ending) (w' : World) : Prop := ∃ (v : Value) (cs : List CmdL), e = .returned v ∧ w'.ownsRow w.heap.size 31 6 v cs.length (cellsCm cs) ∧ cs.length ≤ 20 ∧ (∀ c ∈ cs, CmdX c) ∧ Below w.heap.size w w'
set_option maxHeartbeats 4000000 in
set_option maxRecDepth 100000 in
theorem talks_any {len cap b off : Nat} {a : Option Addr} {z : Nat → Int} (w : World) (hc : Code w.heap.size w a len b off z) :
    Calls Tryd.prog 20 #[.slice a len cap] w (TalksPost w) := by
  have hlen := hc.2.1
  have HC0 : Hid (Code w.heap.size w a len b off z) := hc
  clear hc
  go_enter Tryd.func20, Tryd.ntmps20
  go_wp2_with fail
  refine (new_any w (Nat.le_refl _) HC0.out).mono ?_
  rintro e w1 ⟨rfl, hc1, hb1⟩
  have HC1 : Hid (Cur w.heap.size w1 w.heap.size a len cap b off z) := hc1
  have HB1 : Hid (Below w.heap.size w w1) := hb1
  have hgl : w.heap.size < w1.heap.size := hc1.lt
  obtain ⟨W2, hW2⟩ : ∃ W2, W2 = (w1.alloc (Obj.cells #[] 48)).alloc (Obj.cells #[] 31) := ⟨_, rfl⟩
  have hbb : Below w1.heap.size w1 W2 := by rw [hW2]; exact two_bel _ _
  have HC2 : Hid (Cur w.heap.size W2 w.heap.size a len cap b off z) := HC1.out.below hbb
  have HG2 : Hid (w1.grownBy W2 (some w.heap.size)) := grown_of hbb _
  have HO2 : Hid (W2.ownsRow w1.heap.size 31 6 (.slice (some ⟨w1.heap.size + 1, 0, none⟩) 0 0) 0 []) := by
    have e : (w1.alloc (Obj.cells #[] 48)).heap.size = w1.heap.size + 1 := by simp
    rw [hW2]
    have q := heap_alloc_new (w1.alloc (Obj.cells #[] 48)) (Obj.cells #[] 31)
    rw [e] at q
    exact ⟨rfl, .inr ⟨w1.heap.size + 1, 0, #[], rfl, by omega, q, Nat.le_refl _, by decide, rfl, rfl⟩⟩
  clear hc1 hb1 hbb HC0 HC1
  go_upto_region 4 with fail
  rw [← hW2]
  clear hW2
  go_wp2_with fail
  go_loopw [6, 4, 5] (fun i v u wr => ∃ (k : Nat) (V U : Value) (cs : List CmdL), k ≤ 20 ∧ i = .int .i64 (k : Int) ∧ v = V ∧ U = u ∧ LivS w.heap.size w.heap.size len cap b off a z w1 k V wr ∧ CsS w1.heap.size k U cs wr)
    (fun i _ _ _ => 20 - (intOf i).toNat)
  case atStart => exact ⟨0, _, _, [], by omega, rfl, rfl, rfl, ⟨⟨[], StateV.nil rfl⟩, HC2.out, HG2.out⟩, ⟨HO2.out, rfl, fun c h => by cases h⟩⟩
  case round =>
    obtain ⟨k, V, U, cs, hk, rfl, rfl, rfl, hst, hcs⟩ := hrel
    obtain ⟨⟨m, hG, ma, mg, mo, mc, rfl, hp, hnil, hr48⟩, hcur, hgr⟩ := hst
    have HG : Hid (Acts.Good k m) := hG
    have HP : Hid (PairAt wr ma mg mo m) := hp
    have HN : Hid (ma = none → mc = 0) := hnil
    have HCR : Hid (Cur w.heap.size wr w.heap.size a len cap b off z) := hcur
    have HGR : Hid (w1.grownBy wr (some w.heap.size)) := hgr
    have HNE : Hid (0 < m.length → mg ≠ w.heap.size) := fun hl => hcur.ne_pair hp hl
    have HCS : Hid (CsS w1.heap.size k U cs wr) := hcs
    clear hG hp hnil hcur hgr hr48 hcs
    go_wp2_with fail
    refine (size_any (by omega) wr).mono ?_
    rintro e wr' ⟨N, rfl, hN1, hN2, hwr⟩
    subst hwr
    by_cases hlt' : k < 2 + N
    · have hkk : (k : Int) < 2 + (N : Int) := by omega
      have hk9 : (k : Int) + 1 ≤ 100 := by omega
      go_wp2_with fail
      refine (drawn_any m HG.out (by omega) wr' HCR.out HP.out).mono ?_
      rintro e w2 ⟨c, rfl, hx, hc1, hg1⟩
      have HX : Hid (CmdX c) := hx
      obtain ⟨W2, hW2⟩ : ∃ W2, W2 = w2.alloc (Obj.cells #[.int .i64 c.op, .int .i64 c.ses, .int .i64 c.seq, .string c.key, .string c.val, .string c.old] 31) := ⟨_, rfl⟩
      have HC2 : Hid (Cur w.heap.size W2 w.heap.size a len cap b off z) := by rw [hW2]; exact hc1.alloc _
      have HG2 : Hid (w1.grownBy W2 (some w.heap.size)) := by rw [hW2]; exact (HGR.out.trans hg1).trans (grown_alloc _ _)
      have hgm : wr'.grownBy W2 (some w.heap.size) := by rw [hW2]; exact hg1.trans (grown_alloc _ _)
      have HP2 : Hid (PairAt W2 ma mg mo m) := pair_grown HP.out hgm HNE.out
      have HO2 : Hid (W2.ownsRow w1.heap.size 31 6 U cs.length (cellsCm cs)) := own_grown HCS.out.own hgm (fun q e => by have := own_low HCS.out.own e; omega)
      have HXX : Hid (W2.heap[w2.heap.size]? = some (.cells #[.int .i64 c.op, .int .i64 c.ses, .int .i64 c.seq, .string c.key, .string c.val, .string c.old] 31 (0, 0))) := by rw [hW2]; exact heap_alloc_new w2 _
      have HACT : Hid (Calls Tryd.prog 8 #[.slice ma m.length mc, .int .i64 ((k : Int) + 1), .agg #[.int .i64 c.op, .int .i64 c.ses, .int .i64 c.seq, .string c.key, .string c.val, .string c.old]] W2 (OutT (Acts.act m (k + 1) c).1 (Acts.act m (k + 1) c).2 W2)) := by
        have q := specAct_is (i := k + 1) (cap := mc) m c HG.out (by omega) (by omega) HX.out.ok HX.out.val ⟨by have := HX.out.key; omega, by have := HX.out.old; omega⟩ HN.out W2 HP2.out
        have e : ((k + 1 : Nat) : Int) = (k : Int) + 1 := by omega
        rw [e] at q
        exact q
      unfold cmdV
      clear hx hc1 hg1 hgm HP HCR HGR
      go_upto_region 8 with fail
      rw [← hW2]
      clear hW2
      obtain ⟨x0, x1, x2, x3, x4, x5⟩ := six_cells' HXX.out
      go_wp2_with fail
      clear x0 x1 x2 x3 x4 x5
      refine Calls.mono HACT.out ?_
      intro e w3 h3
      obtain ⟨a3, g3, o3, c3, rfl, hp3, hb3, hn3, hr3⟩ := h3
      have HP3 : Hid (PairAt w3 a3 g3 o3 (Acts.act m (k + 1) c).1) := hp3
      have HR3 : Hid ((a3 = none → c3 = 0) ∧ R48 w3 g3 (Acts.act m (k + 1) c).1.length) := ⟨hn3, hr3⟩
      have HA3 : Hid (Acts.Good (k + 1) (Acts.act m (k + 1) c).1) := Acts.act_good HG.out (by omega) (by omega) HX.out.ok HX.out.val
      have HC3 : Hid (Cur w.heap.size w3 w.heap.size a len cap b off z) := HC2.out.below hb3
      have HG3 : Hid (w1.grownBy w3 (some w.heap.size)) := grown_below HG2.out hb3
      have HO3 : Hid (w3.ownsRow w1.heap.size 31 6 U cs.length (cellsCm cs)) := own_kept HO2.out hb3
      have HX3 : Hid (w3.heap[w2.heap.size]? = some (.cells #[.int .i64 c.op, .int .i64 c.ses, .int .i64 c.seq, .string c.key, .string c.val, .string c.old] 31 (0, 0))) := (hb3.block _ (Array.getElem?_eq_some_iff.1 HXX.out).1).trans HXX.out
      clear hp3 hn3 hr3 hb3 HACT HC2 HG2 HO2 HXX HP2
      go_upto_region 11 with fail
      obtain ⟨x0, x1, x2, x3, x4, x5⟩ := six_cells' HX3.out
      obtain ⟨W4, hW4⟩ : ∃ W4, W4 = w3.alloc (Obj.cells #[.int .i64 c.op, .int .i64 c.ses, .int .i64 c.seq, .string c.key, .string c.val, .string c.old] 31) := ⟨_, rfl⟩
      have hb4 : Below w3.heap.size w3 W4 := by rw [hW4]; exact (Below.refl _ _).alloc (Nat.le_refl _) _
      have HP4 : Hid (PairAt W4 a3 g3 o3 (Acts.act m (k + 1) c).1) := HP3.out.kept hb4
      have HR4 : Hid ((a3 = none → c3 = 0) ∧ R48 W4 g3 (Acts.act m (k + 1) c).1.length) := ⟨HR3.out.1, HR3.out.2.kept hb4⟩
      have HC4 : Hid (Cur w.heap.size W4 w.heap.size a len cap b off z) := HC3.out.below hb4
      have HG4 : Hid (w1.grownBy W4 (some w.heap.size)) := grown_below HG3.out hb4
      have HO4 : Hid (W4.ownsRow w1.heap.size 31 6 U cs.length (cellsCm cs)) := own_kept HO3.out hb4
      have HY4 : Hid (W4.heap[w3.heap.size]? = some (.cells #[.int .i64 c.op, .int .i64 c.ses, .int .i64 c.seq, .string c.key, .string c.val, .string c.old] 31 (0, 0))) := by rw [hW4]; exact heap_alloc_new w3 _
      have HONE : Hid (CmAt W4 (some ⟨w3.heap.size, 0, none⟩) w3.heap.size 0 [c]) := by
        refine ⟨fun _ => rfl, fun j hj => ?_⟩
        have : j = 0 := by simp at hj; omega
        subst this
        exact six_cells' HY4.out
      have h20 : cs.length ≤ 20 := by rw [HCS.out.len]; exact hk
      have hsz1 : w1.heap.size ≤ W4.heap.size := HG4.out.size
      clear hb4 HP3 HR3 HC3 HG3 HO3 HX3
      go_wp2_with (first | (rw [← hW4]; refine wpList_appendCm rfl _ _ rfl w1.heap.size U cs.length (cellsCm cs) rfl HO4.out (some ⟨w3.heap.size, 0, none⟩) w3.heap.size 0 1 [c] rfl HONE.out (fun e => by cases e) (by show cs.length + 1 ≤ _; omega) hsz1 ?_; rintro v5 w5 hown5 hg5) | fail)
      have HP5 : Hid (PairAt w5 a3 g3 o3 (Acts.act m (k + 1) c).1) := pair_grownO HP4.out hg5 (fun hl => own_not48 HO4.out HR4.out.2 hl)
      have HR5 : Hid ((a3 = none → c3 = 0) ∧ R48 w5 g3 (Acts.act m (k + 1) c).1.length) := ⟨HR4.out.1, HR4.out.2.grown hg5 (fun hl => own_not48 HO4.out HR4.out.2 hl)⟩
      have hlow : ∀ r, U.ownBlock = some r → w1.heap.size ≤ r := fun r e => own_low HO4.out e
      have HC5 : Hid (Cur w.heap.size w5 w.heap.size a len cap b off z) := by
        refine HC4.out.kept hg5 (fun r e => Or.inl (by have := hlow r e; omega)) ?_
        have hl4 := HC4.out.lt
        have e0 : W4.heap[w.heap.size]? = some W4.heap[w.heap.size] := by simp [hl4]
        rw [grown_keep' e0 hg5 (fun e => by have := hlow _ e; omega), e0]
      have HG5 : Hid (w1.grownBy w5 (some w.heap.size)) := HG4.out.andThen hg5 (fun r e => Or.inl (hlow r e))
      have HCS5 : Hid (CsS w1.heap.size (k + 1) v5 (cs ++ [c]) w5) := by
        refine ⟨?_, by rw [List.length_append, HCS.out.len]; rfl, fun d hd => ?_⟩
        · rw [List.length_append, cellsCm_app]
          exact hown5
        · rcases List.mem_append.1 hd with q | q
          · exact HCS.out.cmd d q
          · rw [List.mem_singleton.1 q]; exact HX.out
      clear hown5 hg5 hlow x0 x1 x2 x3 x4 x5 hsz1
      go_wp2
      go_roundw
      case rel => exact ⟨k + 1, _, v5, cs ++ [c], by omega, by go_num, rfl, rfl, ⟨⟨_, HA3.out, a3, g3, o3, c3, rfl, HP5.out, HR5.out⟩, HC5.out, HG5.out⟩, HCS5.out⟩
      case measure => simp [intOf]; omega
    · have hkk : ¬ (k : Int) < 2 + (N : Int) := by omega
      go_wp2
      refine bodyPost_ret (v := U) (by simp [results, Tryd.results20, go_sem]) rfl ⟨U, cs, rfl, ?_, by rw [HCS.out.len]; omega, HCS.out.cmd, ?_⟩
      · exact own_mono HCS.out.own HB1.out.size
      · exact HB1.out.grown HGR.out HB1.out.size (fun q e => by cases e; exact Nat.le_refl _)
end Go.Proofs.YtpedpdgkbmpfjaaDoor
