/- Drawn commands, walked: l15Right. -/
import Derived.Test.YtpedpdgkbmpfjaaDoorSpecCmd
import Derived.Test.YtpedpdgkbmpfjaaDoorAgg
import Derived.Test.YtpedpdgkbmpfjaaDoorDrawMore2
namespace Go.Proofs.YtpedpdgkbmpfjaaDoor
open Go.RowKit
open Cmds (okC leftB em)
set_option linter.unusedVariables false
set_option linter.unusedSimpArgs false

/-- What is drawn of right commands. -/
structure CmdD (c : CmdL) : Prop where
  ok : okC c = true
  key : c.key.size ≤ 1
  val : c.val.size ≤ 5
  old : c.old.size ≤ 5
  ses : c.ses ≤ 4
  seq : c.seq ≤ 3
theorem ok_open : okC ⟨1, 0, 0, ⟨#[]⟩, ⟨#[]⟩, ⟨#[]⟩⟩ = true := by rw [open_is rfl]; exact (sameC_iff _ _).2 rfl
theorem ok_op {o s q : Int} {k v l : ByteArray} (h1 : 2 ≤ o ∧ o ≤ 5) (h2 : 0 ≤ s ∧ s ≤ 100000) (h3 : 0 ≤ q ∧ q ≤ 100000) (h4 : 1 ≤ k.size ∧ k.size ≤ 9) (h5 : v.size ≤ 12) (h6 : l.size ≤ 12) (h7 : o = 2 ∨ o = 4 → v.size = 0) (h8 : o ≠ 5 → l.size = 0) : okC ⟨o, s, q, k, v, l⟩ = true := by
  have hk : em k = false := by
    cases h : em k
    · rfl
    · have := Cmds.em_size.1 h; omega
  simp only [okC, Bool.and_eq_true, Cmds.inB_iff, decide_eq_true_eq, hk, decide_eq_false (show ¬ o = 1 by omega), beq_self_eq_true, true_and]
  refine ⟨⟨⟨h2, h3⟩, by omega, h5, h6⟩, ?_⟩
  unfold leftB
  simp only
  rw [if_neg (by omega)]
  split
  · rw [Cmds.em_size.2 (h7 (by assumption)), Cmds.em_size.2 (h8 (by omega))]; rfl
  · split
    · exact Cmds.em_size.2 (h8 (by omega))
    · exact decide_eq_true (by omega)
theorem Cur.low {B g len cap b off : Nat} {a : Option Addr} {z : Nat → Int} {W : World} (h : Cur B W g a len cap b off z) : B ≤ g := h.1
theorem Tryd.isAgg31' (w : World) : (isAgg 31).run Tryd.prog w = .ok true w := by kernel_rfl
theorem Tryd.sizeOf31' (w : World) : (sizeOf 31).run Tryd.prog w = .ok 6 w := by kernel_rfl
/-- What l15Right holds between its calls: the cursor, the command x, the result. -/
structure DX (B g len cap b off : Nat) (a : Option Addr) (z : Nat → Int) (w : World) (xb : Nat) (C : Array Value) (W : World) : Prop where
  cur : Cur B W g a len cap b off z
  x : W.heap[xb]? = some (.cells C 31 (0, 0))
  zz : W.heap[w.heap.size]? = some (.cells #[.int .i64 0, .int .i64 0, .int .i64 0, .string ⟨#[]⟩, .string ⟨#[]⟩, .string ⟨#[]⟩] 31 (0, 0))
  gr : w.grownBy W (some g)
  lt : g < w.heap.size
  up : w.heap.size < xb
section
variable {B g len cap b off : Nat} {a : Option Addr} {z : Nat → Int} {w W W' : World} {xb : Nat} {C : Array Value}
theorem DX.call (h : DX B g len cap b off a z w xb C W) (hc : Cur B W' g a len cap b off z) (hg : W.grownBy W' (some g)) : DX B g len cap b off a z w xb C W' :=
  have hl := h.lt
  have hu := h.up
  ⟨hc, grown_keep h.x hg (by omega), grown_keep h.zz hg (by omega), h.gr.trans hg, hl, hu⟩
theorem Cur.far2 (hc : Cur B W g a len cap b off z) {k : Nat} (hk : g < k) (j : Nat) (v : Value) : Cur B (W.setCell ⟨k, j, none⟩ v) g a len cap b off z :=
  hc.kept (grown_set W k j v) (fun r e => Or.inl (by have := hc.low; cases e; omega)) (Below.heap_setCell W ⟨k, j, none⟩ v g (by show g ≠ k; omega))
theorem DX.set (h : DX B g len cap b off a z w xb C W) (j : Nat) (v : Value) : DX B g len cap b off a z w xb (C.setIfInBounds j v) (W.setCell ⟨xb, j, none⟩ v) :=
  have hl := h.lt
  have hu := h.up
  ⟨h.cur.far2 (by omega) j v, heap_setCell_same W xb j C 31 v h.x, set_far h.zz (by omega) j v, grown_new h.gr (by omega) j v, hl, hu⟩
end
/-- What is drawn: some command. -/
def DCmd (B g len cap b off : Nat) (a : Option Addr) (z : Nat → Int) (w : World) (e : Ending) (w' : World) : Prop := ∃ c : CmdL, e = .returned (cmdV c) ∧ CmdD c ∧ Cur B w' g a len cap b off z ∧ w.grownBy w' (some g)
def oneS : Array Value := #[.string ⟨#[97]⟩, .string ⟨#[98]⟩, .string ⟨#[99]⟩]
theorem oneS_ok : ∀ j, j < 3 → ∃ T : ByteArray, oneS[j]? = some (.string T) ∧ T.size = 1 := by
  intro j hj
  match j, hj with
  | 0, _ => exact ⟨_, rfl, rfl⟩
  | 1, _ => exact ⟨_, rfl, rfl⟩
  | 2, _ => exact ⟨_, rfl, rfl⟩
def fourS : Array Value := #[.string ⟨#[]⟩, .string ⟨#[49]⟩, .string ⟨#[50]⟩, .string ⟨#[116, 104, 114, 101, 101]⟩]
theorem fourS_ok : ∀ j, j < 4 → ∃ T : ByteArray, fourS[j]? = some (.string T) ∧ T.size ≤ 5 := by
  intro j hj
  match j, hj with
  | 0, _ => exact ⟨_, rfl, by decide⟩
  | 1, _ => exact ⟨_, rfl, by decide⟩
  | 2, _ => exact ⟨_, rfl, by decide⟩
  | 3, _ => exact ⟨_, rfl, by decide⟩
theorem DX.done {B g len cap b off : Nat} {a : Option Addr} {z : Nat → Int} {w W : World} {xb : Nat} {C : Array Value} (h : DX B g len cap b off a z w xb C W) (A : Array Value) :
    Cur B (W.setRow w.heap.size A) g a len cap b off z ∧ w.grownBy (W.setRow w.heap.size A) (some g) :=
  have hl := h.lt
  ⟨h.cur.kept (grown_setRow W w.heap.size A) (fun r e => Or.inl (by have := h.cur.low; cases e; omega)) (setRow_other W w.heap.size g A (by omega)),
    h.gr.andThen (grown_setRow W w.heap.size A) (fun r e => Or.inl (by cases e; exact Nat.le_refl _))⟩
theorem result41 {w : World} {g : Nat} {A C : Array Value} (hg : w.heap[g]? = some (.cells C 31 (0, 0))) (hs : A.size = 6) {tmps : Array Value} (ht : tmps.getD 2 undef = .pointer (some ⟨g, 0, none⟩)) : (results Tryd.f68 tmps).run Tryd.prog (w.setRow g A) = .ok (.agg A) (w.setRow g A) := by
  have h := run_loadVar_agg (P := Tryd.prog) Tryd.isAgg31' Tryd.sizeOf31' (row_size (A := A) hg) hs
  have ht' : tmps[2]?.getD undef = .pointer (some ⟨g, 0, none⟩) := by simpa using ht
  simp [results, Tryd.results68, ht', asAddr, h]
theorem six_one (p q r : Int) (k v o : ByteArray) : ∀ x ∈ (#[.int .i64 p, .int .i64 q, .int .i64 r, .string k, .string v, .string o] : Array Value).toList, x.oneCell' = true := by
  intro x hx
  simp at hx
  rcases hx with rfl | rfl | rfl | rfl | rfl | rfl <;> rfl
set_option maxHeartbeats 8000000 in
set_option maxRecDepth 100000 in
theorem cmd_any {B g len cap b off : Nat} {a : Option Addr} {z : Nat → Int} (w : World) (hc : Cur B w g a len cap b off z) :
    Calls Tryd.prog 68 #[.pointer (some ⟨g, 0, none⟩)] w (DCmd B g len cap b off a z w) := by
  have hlt := hc.lt
  obtain ⟨W0, hW0⟩ : ∃ W0, W0 = w.alloc (Obj.cells #[.int .i64 0, .int .i64 0, .int .i64 0, .string ⟨#[]⟩, .string ⟨#[]⟩, .string ⟨#[]⟩] 31) := ⟨_, rfl⟩
  have HC0 : Hid (Cur B W0 g a len cap b off z) := by rw [hW0]; exact hc.alloc _
  have HZ0 : Hid (W0.heap[w.heap.size]? = some (.cells #[.int .i64 0, .int .i64 0, .int .i64 0, .string ⟨#[]⟩, .string ⟨#[]⟩, .string ⟨#[]⟩] 31 (0, 0))) := by show _ = _; rw [hW0]; exact heap_alloc_new w _
  have HG0 : Hid (w.grownBy W0 (some g)) := by rw [hW0]; exact grown_alloc _ _
  clear hc
  go_enter Tryd.func68, Tryd.ntmps68
  go_wp2_with fail
  rw [← hW0]
  clear hW0
  refine (below_any 5 (by omega) W0 HC0.out).mono ?_
  rintro e w1 ⟨x, rfl, hx, hc1, hg1⟩
  obtain ⟨hx0, _, hx2⟩ := hx
  have hx3 := hx2 (by omega)
  clear hx2
  have hz1 := grown_keep HZ0.out hg1 (by omega)
  have hzl : w.heap.size < w1.heap.size := (Array.getElem?_eq_some_iff.1 hz1).1
  obtain ⟨W2, hW2⟩ : ∃ W2, W2 = w1.alloc (Obj.cells #[.int .i64 (1 + x), .int .i64 0, .int .i64 0, .string ⟨#[]⟩, .string ⟨#[]⟩, .string ⟨#[]⟩] 31) := ⟨_, rfl⟩
  obtain ⟨xb, hxb⟩ : ∃ xb, xb = w1.heap.size := ⟨_, rfl⟩
  have HX2 : Hid (DX B g len cap b off a z w xb #[.int .i64 (1 + x), .int .i64 0, .int .i64 0, .string ⟨#[]⟩, .string ⟨#[]⟩, .string ⟨#[]⟩] W2) := by
    refine ⟨?_, ?_, ?_, ?_, hlt, by omega⟩
    · rw [hW2]; exact hc1.alloc _
    · rw [hW2, hxb]; exact heap_alloc_new w1 _
    · rw [hW2, Below.heap_alloc _ _ _ hzl]; exact hz1
    · rw [hW2]; exact (HG0.out.trans hg1).trans (grown_alloc _ _)
  have HZ1 : Hid (w1.heap[w.heap.size]? = some (.cells #[.int .i64 0, .int .i64 0, .int .i64 0, .string ⟨#[]⟩, .string ⟨#[]⟩, .string ⟨#[]⟩] 31 (0, 0))) := hz1
  clear hc1 hg1 hz1 HZ0 HG0 HC0
  by_cases hx1 : x = 0
  · subst hx1
    rw [hW2, hxb] at HX2
    have HX2' : Hid (DX B g len cap b off a z w w1.heap.size #[.int .i64 1, .int .i64 0, .int .i64 0, .string ⟨#[]⟩, .string ⟨#[]⟩, .string ⟨#[]⟩] (w1.alloc (Obj.cells #[.int .i64 1, .int .i64 0, .int .i64 0, .string ⟨#[]⟩, .string ⟨#[]⟩, .string ⟨#[]⟩] 31))) := HX2
    clear HX2 hW2 hxb
    go_wp2_with (first | (refine wpList_loadA Tryd.isAgg31' Tryd.sizeOf31' rfl _ rfl w1.heap.size #[.int .i64 1, .int .i64 0, .int .i64 0, .string ⟨#[]⟩, .string ⟨#[]⟩, .string ⟨#[]⟩] 31 rfl HX2'.out.x rfl ?_) | (refine wpList_storeA Tryd.sizeOf31' rfl _ _ rfl w.heap.size #[.int .i64 1, .int .i64 0, .int .i64 0, .string ⟨#[]⟩, .string ⟨#[]⟩, .string ⟨#[]⟩] #[.int .i64 0, .int .i64 0, .int .i64 0, .string ⟨#[]⟩, .string ⟨#[]⟩, .string ⟨#[]⟩] 31 rfl rfl HX2'.out.zz rfl rfl (six_one _ _ _ _ _ _) ?_) | fail)
    obtain ⟨r1, r2⟩ := HX2'.out.done #[.int .i64 1, .int .i64 0, .int .i64 0, .string ⟨#[]⟩, .string ⟨#[]⟩, .string ⟨#[]⟩]
    exact bodyPost_ret (result41 HX2'.out.zz rfl rfl) rfl ⟨⟨1, 0, 0, ⟨#[]⟩, ⟨#[]⟩, ⟨#[]⟩⟩, rfl, ⟨ok_open, by show (0 : Nat) ≤ 1; omega, by show (0 : Nat) ≤ 5; omega, by show (0 : Nat) ≤ 5; omega, by show (0 : Int) ≤ 4; omega, by show (0 : Int) ≤ 3; omega⟩, r1, r2⟩
  · have e1 : ((1 + x : Int) == 1) = false := by simp; omega
    go_wp2_with fail
    rw [← hW2, ← hxb]
    clear hW2 hxb
    refine (below_any 4 (by omega) W2 HX2.out.cur).mono ?_
    rintro e w3 ⟨y, rfl, hy, hc3, hg3⟩
    obtain ⟨hy0, _, hy2⟩ := hy
    have hy3 := hy2 (by omega)
    clear hy2
    have HX3 : Hid (DX B g len cap b off a z w xb #[.int .i64 (1 + x), .int .i64 0, .int .i64 0, .string ⟨#[]⟩, .string ⟨#[]⟩, .string ⟨#[]⟩] w3) := HX2.out.call hc3 hg3
    have HX3b : Hid (DX B g len cap b off a z w xb #[.int .i64 (1 + x), .int .i64 (1 + y), .int .i64 0, .string ⟨#[]⟩, .string ⟨#[]⟩, .string ⟨#[]⟩] (w3.setCell ⟨xb, 1, none⟩ (.int .i64 (1 + y)))) := HX3.out.set 1 _
    clear hc3 hg3 HX2
    have x1 := cell_of_row _ _ 1 _ _ _ HX3.out.x
    have xf1 := frozen_of_row _ _ 1 _ _ HX3.out.x
    simp at x1
    go_wp2_with fail
    refine (below_any 3 (by omega) _ HX3b.out.cur).mono ?_
    rintro e w4 ⟨u, rfl, hu, hc4, hg4⟩
    obtain ⟨hu0, _, hu2⟩ := hu
    have hu3 := hu2 (by omega)
    clear hu2 x1 xf1
    have HX4 : Hid (DX B g len cap b off a z w xb #[.int .i64 (1 + x), .int .i64 (1 + y), .int .i64 0, .string ⟨#[]⟩, .string ⟨#[]⟩, .string ⟨#[]⟩] w4) := HX3b.out.call hc4 hg4
    have HX4b : Hid (DX B g len cap b off a z w xb #[.int .i64 (1 + x), .int .i64 (1 + y), .int .i64 (1 + u), .string ⟨#[]⟩, .string ⟨#[]⟩, .string ⟨#[]⟩] (w4.setCell ⟨xb, 2, none⟩ (.int .i64 (1 + u)))) := HX4.out.set 2 _
    clear hc4 hg4 HX3 HX3b
    have x2 := cell_of_row _ _ 2 _ _ _ HX4.out.x
    have xf2 := frozen_of_row _ _ 2 _ _ HX4.out.x
    simp at x2
    obtain ⟨W5, hW5⟩ : ∃ W5, W5 = w4.setCell ⟨xb, 2, none⟩ (.int .i64 (1 + u)) := ⟨_, rfl⟩
    rw [← hW5] at HX4b
    have HPK : Hid (Calls Tryd.prog 87 #[.pointer (some ⟨g, 0, none⟩), .slice (some ⟨W5.heap.size, 0, none⟩) 3 3] (W5.alloc (.cells oneS 9)) fun e w' => ∃ T : ByteArray, e = .returned (.string T) ∧ T.size = 1 ∧ Cur B w' g a len cap b off z ∧ W5.grownBy w' (some g)) := pick_new (fun T => T.size = 1) W5 HX4b.out.cur oneS 3 (by omega) (by omega) oneS_ok
    unfold oneS at HPK
    have hsz : W5.heap.size = w4.heap.size := by rw [hW5]; simp
    rw [hsz, hW5] at HPK
    clear hsz
    go_wp2_with fail
    refine Calls.mono HPK.out ?_
    rintro e w6 ⟨K, rfl, hK, hc6, hg6⟩
    rw [← hW5] at hg6
    have HX6 : Hid (DX B g len cap b off a z w xb #[.int .i64 (1 + x), .int .i64 (1 + y), .int .i64 (1 + u), .string ⟨#[]⟩, .string ⟨#[]⟩, .string ⟨#[]⟩] w6) := HX4b.out.call hc6 hg6
    have HX6b : Hid (DX B g len cap b off a z w xb #[.int .i64 (1 + x), .int .i64 (1 + y), .int .i64 (1 + u), .string K, .string ⟨#[]⟩, .string ⟨#[]⟩] (w6.setCell ⟨xb, 3, none⟩ (.string K))) := HX6.out.set 3 _
    have HKS : Hid (K.size = 1) := hK
    clear hc6 hg6 HX4 HX4b HPK hW5 hK x2 xf2
    have x0 := cell_of_row _ _ 0 _ _ _ HX6.out.x
    have xf0 := frozen_of_row _ _ 0 _ _ HX6.out.x
    have x3 := cell_of_row _ _ 3 _ _ _ HX6.out.x
    have xf3 := frozen_of_row _ _ 3 _ _ HX6.out.x
    simp at x0 x3
    by_cases k3 : x = 2
    · subst k3
      obtain ⟨W8, hW8⟩ : ∃ W, W = w6.setCell ⟨xb, 3, none⟩ (.string K) := ⟨_, rfl⟩
      rw [← hW8] at HX6b
      have HP8 : Hid (Calls Tryd.prog 87 #[.pointer (some ⟨g, 0, none⟩), .slice (some ⟨W8.heap.size, 0, none⟩) 4 4] (W8.alloc (.cells fourS 9)) fun e w' => ∃ T : ByteArray, e = .returned (.string T) ∧ T.size ≤ 5 ∧ Cur B w' g a len cap b off z ∧ W8.grownBy w' (some g)) := pick_new (fun T => T.size ≤ 5) W8 HX6b.out.cur fourS 4 (by omega) (by omega) fourS_ok
      unfold fourS at HP8
      have hsz : W8.heap.size = w6.heap.size := by rw [hW8]; simp
      rw [hsz, hW8] at HP8
      clear hsz
      go_wp2_with fail
      refine Calls.mono HP8.out ?_
      rintro e w8 ⟨V, rfl, hV, hc8, hg8⟩
      rw [← hW8] at hg8
      have HX8 : Hid (DX B g len cap b off a z w xb #[.int .i64 (1 + 2), .int .i64 (1 + y), .int .i64 (1 + u), .string K, .string ⟨#[]⟩, .string ⟨#[]⟩] w8) := HX6b.out.call hc8 hg8
      have HX8b : Hid (DX B g len cap b off a z w xb #[.int .i64 (1 + 2), .int .i64 (1 + y), .int .i64 (1 + u), .string K, .string V, .string ⟨#[]⟩] (w8.setCell ⟨xb, 4, none⟩ (.string V))) := HX8.out.set 4 _
      have HSV : Hid (V.size ≤ 5) := hV
      clear hc8 hg8 HP8 hW8 hV HX6b
      clear x0 xf0 x3 xf3 HX6
      have x4 := cell_of_row _ _ 4 _ _ _ HX8.out.x
      have xf4 := frozen_of_row _ _ 4 _ _ HX8.out.x
      simp at x4
      have hup := HX8.out.up
      go_wp2_with (first | (refine wpList_loadA Tryd.isAgg31' Tryd.sizeOf31' rfl _ rfl xb #[.int .i64 (1 + 2), .int .i64 (1 + y), .int .i64 (1 + u), .string K, .string V, .string ⟨#[]⟩] 31 rfl HX8b.out.x rfl ?_) | (refine wpList_storeA Tryd.sizeOf31' rfl _ _ rfl w.heap.size #[.int .i64 (1 + 2), .int .i64 (1 + y), .int .i64 (1 + u), .string K, .string V, .string ⟨#[]⟩] #[.int .i64 0, .int .i64 0, .int .i64 0, .string ⟨#[]⟩, .string ⟨#[]⟩, .string ⟨#[]⟩] 31 rfl rfl HX8b.out.zz rfl rfl (six_one _ _ _ _ _ _) ?_) | fail)
      obtain ⟨r1, r2⟩ := HX8b.out.done #[.int .i64 (1 + 2), .int .i64 (1 + y), .int .i64 (1 + u), .string K, .string V, .string ⟨#[]⟩]
      exact bodyPost_ret (result41 HX8b.out.zz rfl rfl) rfl ⟨⟨1 + 2, 1 + y, 1 + u, K, V, ⟨#[]⟩⟩, rfl, ⟨ok_op (by omega) (by omega) (by omega) (by have := HKS.out; omega) (by have := HSV.out; omega) (by show (0 : Nat) ≤ 12; omega) (by omega) (fun _ => rfl), by have := HKS.out; simp only; omega, by have := HSV.out; simp only; omega, by show (0 : Nat) ≤ 5; omega, by simp only; omega, by simp only; omega⟩, r1, r2⟩
    · have e3 : ((1 + x : Int) == 3) = false := by simp; omega
      by_cases k5 : x = 4
      · subst k5
        obtain ⟨W8, hW8⟩ : ∃ W, W = w6.setCell ⟨xb, 3, none⟩ (.string K) := ⟨_, rfl⟩
        rw [← hW8] at HX6b
        have HP8 : Hid (Calls Tryd.prog 87 #[.pointer (some ⟨g, 0, none⟩), .slice (some ⟨W8.heap.size, 0, none⟩) 4 4] (W8.alloc (.cells fourS 9)) fun e w' => ∃ T : ByteArray, e = .returned (.string T) ∧ T.size ≤ 5 ∧ Cur B w' g a len cap b off z ∧ W8.grownBy w' (some g)) := pick_new (fun T => T.size ≤ 5) W8 HX6b.out.cur fourS 4 (by omega) (by omega) fourS_ok
        unfold fourS at HP8
        have hsz : W8.heap.size = w6.heap.size := by rw [hW8]; simp
        rw [hsz, hW8] at HP8
        clear hsz
        go_wp2_with fail
        refine Calls.mono HP8.out ?_
        rintro e w8 ⟨V, rfl, hV, hc8, hg8⟩
        rw [← hW8] at hg8
        have HX8 : Hid (DX B g len cap b off a z w xb #[.int .i64 (1 + 4), .int .i64 (1 + y), .int .i64 (1 + u), .string K, .string ⟨#[]⟩, .string ⟨#[]⟩] w8) := HX6b.out.call hc8 hg8
        have HX8b : Hid (DX B g len cap b off a z w xb #[.int .i64 (1 + 4), .int .i64 (1 + y), .int .i64 (1 + u), .string K, .string V, .string ⟨#[]⟩] (w8.setCell ⟨xb, 4, none⟩ (.string V))) := HX8.out.set 4 _
        have HSV : Hid (V.size ≤ 5) := hV
        clear hc8 hg8 HP8 hW8 hV HX6b
        clear x0 xf0 x3 xf3 HX6
        have x4 := cell_of_row _ _ 4 _ _ _ HX8.out.x
        have xf4 := frozen_of_row _ _ 4 _ _ HX8.out.x
        simp at x4
        obtain ⟨W9, hW9⟩ : ∃ W, W = w8.setCell ⟨xb, 4, none⟩ (.string V) := ⟨_, rfl⟩
        rw [← hW9] at HX8b
        have HP9 : Hid (Calls Tryd.prog 87 #[.pointer (some ⟨g, 0, none⟩), .slice (some ⟨W9.heap.size, 0, none⟩) 4 4] (W9.alloc (.cells fourS 9)) fun e w' => ∃ T : ByteArray, e = .returned (.string T) ∧ T.size ≤ 5 ∧ Cur B w' g a len cap b off z ∧ W9.grownBy w' (some g)) := pick_new (fun T => T.size ≤ 5) W9 HX8b.out.cur fourS 4 (by omega) (by omega) fourS_ok
        unfold fourS at HP9
        have hsz : W9.heap.size = w8.heap.size := by rw [hW9]; simp
        rw [hsz, hW9] at HP9
        clear hsz
        go_wp2_with fail
        refine Calls.mono HP9.out ?_
        rintro e w9 ⟨O, rfl, hO, hc9, hg9⟩
        rw [← hW9] at hg9
        have HX9 : Hid (DX B g len cap b off a z w xb #[.int .i64 (1 + 4), .int .i64 (1 + y), .int .i64 (1 + u), .string K, .string V, .string ⟨#[]⟩] w9) := HX8b.out.call hc9 hg9
        have HX9b : Hid (DX B g len cap b off a z w xb #[.int .i64 (1 + 4), .int .i64 (1 + y), .int .i64 (1 + u), .string K, .string V, .string O] (w9.setCell ⟨xb, 5, none⟩ (.string O))) := HX9.out.set 5 _
        have HSO : Hid (O.size ≤ 5) := hO
        clear hc9 hg9 HP9 hW9 hO HX8b
        clear x4 xf4 HX8
        have x5 := cell_of_row _ _ 5 _ _ _ HX9.out.x
        have xf5 := frozen_of_row _ _ 5 _ _ HX9.out.x
        simp at x5
        have hup := HX9.out.up
        go_wp2_with (first | (refine wpList_loadA Tryd.isAgg31' Tryd.sizeOf31' rfl _ rfl xb #[.int .i64 (1 + 4), .int .i64 (1 + y), .int .i64 (1 + u), .string K, .string V, .string O] 31 rfl HX9b.out.x rfl ?_) | (refine wpList_storeA Tryd.sizeOf31' rfl _ _ rfl w.heap.size #[.int .i64 (1 + 4), .int .i64 (1 + y), .int .i64 (1 + u), .string K, .string V, .string O] #[.int .i64 0, .int .i64 0, .int .i64 0, .string ⟨#[]⟩, .string ⟨#[]⟩, .string ⟨#[]⟩] 31 rfl rfl HX9b.out.zz rfl rfl (six_one _ _ _ _ _ _) ?_) | fail)
        obtain ⟨r1, r2⟩ := HX9b.out.done #[.int .i64 (1 + 4), .int .i64 (1 + y), .int .i64 (1 + u), .string K, .string V, .string O]
        exact bodyPost_ret (result41 HX9b.out.zz rfl rfl) rfl ⟨⟨1 + 4, 1 + y, 1 + u, K, V, O⟩, rfl, ⟨ok_op (by omega) (by omega) (by omega) (by have := HKS.out; omega) (by have := HSV.out; omega) (by have := HSO.out; omega) (by omega) (by omega), by have := HKS.out; simp only; omega, by have := HSV.out; simp only; omega, by have := HSO.out; simp only; omega, by simp only; omega, by simp only; omega⟩, r1, r2⟩
      · have e5 : ((1 + x : Int) == 5) = false := by simp; omega
        have hup := HX6.out.up
        go_wp2_with (first | (refine wpList_loadA Tryd.isAgg31' Tryd.sizeOf31' rfl _ rfl xb #[.int .i64 (1 + x), .int .i64 (1 + y), .int .i64 (1 + u), .string K, .string ⟨#[]⟩, .string ⟨#[]⟩] 31 rfl HX6b.out.x rfl ?_) | (refine wpList_storeA Tryd.sizeOf31' rfl _ _ rfl w.heap.size #[.int .i64 (1 + x), .int .i64 (1 + y), .int .i64 (1 + u), .string K, .string ⟨#[]⟩, .string ⟨#[]⟩] #[.int .i64 0, .int .i64 0, .int .i64 0, .string ⟨#[]⟩, .string ⟨#[]⟩, .string ⟨#[]⟩] 31 rfl rfl HX6b.out.zz rfl rfl (six_one _ _ _ _ _ _) ?_) | fail)
        obtain ⟨r1, r2⟩ := HX6b.out.done #[.int .i64 (1 + x), .int .i64 (1 + y), .int .i64 (1 + u), .string K, .string ⟨#[]⟩, .string ⟨#[]⟩]
        exact bodyPost_ret (result41 HX6b.out.zz rfl rfl) rfl ⟨⟨1 + x, 1 + y, 1 + u, K, ⟨#[]⟩, ⟨#[]⟩⟩, rfl, ⟨ok_op (by omega) (by omega) (by omega) (by have := HKS.out; omega) (by show (0 : Nat) ≤ 12; omega) (by show (0 : Nat) ≤ 12; omega) (fun _ => rfl) (fun _ => rfl), by have := HKS.out; simp only; omega, by show (0 : Nat) ≤ 5; omega, by show (0 : Nat) ≤ 5; omega, by simp only; omega, by simp only; omega⟩, r1, r2⟩
end Go.Proofs.YtpedpdgkbmpfjaaDoor
