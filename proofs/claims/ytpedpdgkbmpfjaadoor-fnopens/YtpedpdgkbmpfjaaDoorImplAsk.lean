/- What a session's command asks, walked: the asking's key, value and change. -/
import Derived.Test.YtpedpdgkbmpfjaaDoorImplPick
import Derived.Test.YtpedpdgkbmpfjaaDoorSpecCmd
import Derived.Test.YtpedpdgkbmpfjaaDoorSpecOk
import Derived.Test.YtpedpdgkbmpfjaaDoorMapBetween
namespace Go.Proofs.YtpedpdgkbmpfjaaDoor
open Go.RowKit
open Acts (decS skey sval nkey kkey sess parse Enc get nextN least pickL findS)
set_option linter.unusedVariables false
set_option linter.unusedSimpArgs false

/-- An asking's cells: the state, the command, what it changes. -/
def askC (sm : Value) (c : CmdL) (v : Value) : Array Value := #[sm, .int .i64 c.op, .int .i64 c.ses, .int .i64 c.seq, .string c.key, .string c.val, .string c.old, v]
def Ask (w : World) (ab : Nat) (sm : Value) (c : CmdL) (v : Value) : Prop := w.heap[ab]? = some (.cells (askC sm c v) 108 (0, 0))
theorem Ask.lt {w : World} {ab : Nat} {sm v : Value} {c : CmdL} (h : Ask w ab sm c v) : ab < w.heap.size := (Array.getElem?_eq_some_iff.1 h).1
theorem Ask.below {w w' : World} {ab : Nat} {sm v : Value} {c : CmdL} (h : Ask w ab sm c v) (hb : Below w.heap.size w w') : Ask w' ab sm c v := (hb.block _ h.lt).trans h
theorem Ask.c0 {w : World} {ab : Nat} {sm v : Value} {c : CmdL} (h : Ask w ab sm c v) : w.cell? ⟨ab, 0, none⟩ = some sm := cell_of_row _ _ 0 _ _ _ h
theorem Ask.c4 {w : World} {ab : Nat} {sm v : Value} {c : CmdL} (h : Ask w ab sm c v) : w.cell? ⟨ab, 4, none⟩ = some (.string c.key) := cell_of_row _ _ 4 _ _ _ h
theorem Ask.c5 {w : World} {ab : Nat} {sm v : Value} {c : CmdL} (h : Ask w ab sm c v) : w.cell? ⟨ab, 5, none⟩ = some (.string c.val) := cell_of_row _ _ 5 _ _ _ h
theorem Ask.c6 {w : World} {ab : Nat} {sm v : Value} {c : CmdL} (h : Ask w ab sm c v) : w.cell? ⟨ab, 6, none⟩ = some (.string c.old) := cell_of_row _ _ 6 _ _ _ h
theorem Ask.c7 {w : World} {ab : Nat} {sm v : Value} {c : CmdL} (h : Ask w ab sm c v) : w.cell? ⟨ab, 7, none⟩ = some v := cell_of_row _ _ 7 _ _ _ h
set_option maxHeartbeats 1000000 in
theorem askKey_is {ab : Nat} {sm v : Value} {c : CmdL} (hk : c.key.size ≤ 9) (w : World) (h : Ask w ab sm c v) : Calls Tryd.prog 99 #[.pointer (some ⟨ab, 0, none⟩)] w fun e w' => e = .returned (.string (kkey c.key)) ∧ Below w.heap.size w w' := by
  have c4 := h.c4
  have z1 : ¬ 9223372036854775807 < 1 + c.key.size := by omega
  clear h
  go_enter Tryd.func99, Tryd.ntmps99
  go_wp2
  go_ret
  exact ⟨rfl, Below.refl _ _⟩
set_option maxHeartbeats 2000000 in
set_option maxRecDepth 100000 in
theorem askVal_is {T : Nat} {ab : Nat} {v : Value} {c : CmdL} {a : Option Addr} {g off cap : Nat} (m : List PairL) (hG : Acts.Good T m) (hT : T ≤ 30) (hk : c.key.size ≤ 9) (w : World) (h : Ask w ab (.slice a m.length cap) c v) (hf : PairAt w a g off m) :
    Calls Tryd.prog 93 #[.pointer (some ⟨ab, 0, none⟩)] w fun e w' => e = .returned (.tuple #[.string ((get m (kkey c.key)).getD ⟨#[]⟩), .bool (get m (kkey c.key)).isSome]) ∧ Below w.heap.size w w' := by
  have hl := hG.len
  have d0 := h.c0
  have HG : Hid (∀ x : Abv w, Calls Tryd.prog 76 #[.slice a m.length cap, .string (kkey c.key)] x.w fun e w' => e = .returned (.tuple #[.string ((get m (kkey c.key)).getD ⟨#[]⟩), .bool (get m (kkey c.key)).isSome]) ∧ Below x.w.heap.size x.w w') := fun x => implGet_any m (by omega) (ok_small hG.ok) _ _ _ (getR_get (hG.right hT) (kkey c.key)) x.w (hf.kept x.b)
  have HK : Hid (∀ x : Abv w, Calls Tryd.prog 99 #[.pointer (some ⟨ab, 0, none⟩)] x.w fun e w' => e = .returned (.string (kkey c.key)) ∧ Below x.w.heap.size x.w w') := fun x => askKey_is hk x.w (h.below x.b)
  clear h hf hl hG
  go_enter Tryd.func93, Tryd.ntmps93
  go_wp2_with fail
  have NE := Abv.ne w
  have F0 := fun x : Abv w => x.cell d0
  refine wp_region_above (by kernel_rfl) (by kernel_rfl) ?_
  repeat (go_big_quiet_step (first | (go_at_call 99; exact calls_above (HK.out _)) | (go_at_call 76; exact calls_above (HG.out _))))
  refine wpQuiet_nil ?_
  rintro w2 ⟨⟨_, hb2⟩, rfl⟩
  clear NE F0
  go_wp2
  go_ret2
  exact ⟨rfl, hb2⟩
theorem own_fresh {w : World} {b k n : Nat} {e : TypeId} {v : Value} {xs : List Value} (h : w.ownsRow b e k v n xs) : v.ownBlock ≠ some w.heap.size := by
  rcases h.2 with ⟨rfl, hz⟩ | ⟨g, cap, cur, rfl, hg, hh, hr⟩
  · intro h; cases h
  · intro h
    have e : g = w.heap.size := by simpa [Value.ownBlock] using h
    have := (Array.getElem?_eq_some_iff.1 hh).1
    omega
/-- What change leaves. -/
def ChgPost (w : World) (B ab : Nat) (sm : Value) (c : CmdL) (ob : Option Nat) (cs : List ChangeL) (w' : World) : Prop :=
  ∃ v, Ask w' ab sm c v ∧ w'.ownsRow B 100 3 v cs.length (cellsChange cs) ∧ Below B w w' ∧ w.heap.size ≤ w'.heap.size ∧ ∀ q o, w.heap[q]? = some o → q ≠ ab → ob ≠ some q → w'.heap[q]? = some o
set_option maxHeartbeats 4000000 in
set_option maxRecDepth 100000 in
theorem change_is {B ab : Nat} {sm : Value} {c : CmdL} {va : Option Addr} {vc : Nat} (pre : List ChangeL) (hpre : pre.length ≤ 100) (V : ByteArray) (G : Bool) (hk : c.key.size ≤ 9) (w : World) (hB : B ≤ ab) (h : Ask w ab sm c (.slice va pre.length vc)) (ho : w.ownsRow B 100 3 (.slice va pre.length vc) pre.length (cellsChange pre)) :
    Calls Tryd.prog 94 #[.pointer (some ⟨ab, 0, none⟩), .agg #[.string ⟨#[]⟩, .string V, .bool G]] w fun e w' => e = .returned (.tuple #[]) ∧ ChgPost w B ab sm c (Value.slice va pre.length vc).ownBlock (pre ++ [⟨kkey c.key, V, G⟩]) w' := by
  obtain ⟨i0, hi, hz0, hz1, hz2⟩ := info_parts Tryd.info100
  obtain ⟨W0, hW0⟩ : ∃ W0, W0 = w.alloc (Obj.cells #[.string ⟨#[]⟩, .string V, .bool G] 100) := ⟨_, rfl⟩
  have hb0 : Below w.heap.size w W0 := by rw [hW0]; exact (Below.refl _ _).alloc (Nat.le_refl _) _
  have HA0 : Hid (Ask W0 ab sm c (.slice va pre.length vc)) := h.below hb0
  have HP0 : Hid (W0.heap[w.heap.size]? = some (.cells #[.string ⟨#[]⟩, .string V, .bool G] 100 (0, 0))) := by show _ = _; rw [hW0]; exact heap_alloc_new w _
  have HB0 : Hid (Below w.heap.size w W0) := hb0
  have HLT : Hid (ab < w.heap.size) := h.lt
  have HFR : Hid ((Value.slice va pre.length vc).ownBlock ≠ some w.heap.size) := own_fresh ho
  have HO0 : Hid (W0.ownsRow B 100 3 (.slice va pre.length vc) pre.length (cellsChange pre)) := own_kept ho hb0
  obtain ⟨K, hK⟩ : ∃ K, K = kkey c.key := ⟨_, rfl⟩
  have HK : Hid (∀ W, Ask W ab sm c (.slice va pre.length vc) → Calls Tryd.prog 99 #[.pointer (some ⟨ab, 0, none⟩)] W fun e w' => e = .returned (.string K) ∧ Below W.heap.size W w') := fun W hW => by rw [hK]; exact askKey_is hk W hW
  rw [← hK]
  clear hb0 h hK ho
  go_enter Tryd.func94, Tryd.ntmps94
  go_wp2_with fail
  rw [← hW0]
  clear hW0
  refine Calls.mono (HK.out _ HA0.out) ?_
  rintro e w1 ⟨rfl, hb1⟩
  have hp1 : w1.heap[w.heap.size]? = some (.cells #[.string ⟨#[]⟩, .string V, .bool G] 100 (0, 0)) := (hb1.block _ (Array.getElem?_eq_some_iff.1 HP0.out).1).trans HP0.out
  have x0 := cell_of_row _ _ 0 _ _ _ hp1
  have xf0 := frozen_of_row _ _ 0 _ _ hp1
  simp at x0
  have HP2 : Hid ((w1.setCell ⟨w.heap.size, 0, none⟩ (.string K)).heap[w.heap.size]? = some (.cells #[.string K, .string V, .bool G] 100 (0, 0))) := by
    show _ = _
    have := heap_setCell_same w1 w.heap.size 0 _ 100 (.string K) hp1
    simpa using this
  have HA2 : Hid (Ask (w1.setCell ⟨w.heap.size, 0, none⟩ (.string K)) ab sm c (.slice va pre.length vc)) := set_far (HA0.out.below hb1) (by have := HLT.out; omega) _ _
  have HB2 : Hid (Below w.heap.size w (w1.setCell ⟨w.heap.size, 0, none⟩ (.string K))) := (HB0.out.trans (hb1.mono HB0.out.size)).setCell (by show w.heap.size ≤ w.heap.size; omega) _
  have ho1 := own_kept HO0.out hb1
  have HO1 : Hid ((w1.setCell ⟨w.heap.size, 0, none⟩ (.string K)).ownsRow B 100 3 (.slice va pre.length vc) pre.length (cellsChange pre)) := own_set ho1 _ _ _ HFR.out
  clear hb1 hp1 HA0 HP0 HB0 HK HO0 ho1
  go_wp2_with fail
  obtain ⟨W2, hW2⟩ : ∃ W2, W2 = w1.setCell ⟨w.heap.size, 0, none⟩ (.string K) := ⟨_, rfl⟩
  rw [← hW2] at HP2 HA2 HB2 HO1 ⊢
  clear hW2 x0 xf0
  have p0 := cell_of_row _ _ 0 _ _ _ HP2.out
  have p1 := cell_of_row _ _ 1 _ _ _ HP2.out
  have p2 := cell_of_row _ _ 2 _ _ _ HP2.out
  simp at p0 p1 p2
  have a7 := HA2.out.c7
  have a7o : ∀ o : Obj, (W2.alloc o).cell? ⟨ab, 7, none⟩ = some (.slice va pre.length vc) := fun o => (HA2.out.below ((Below.refl _ _).alloc (Nat.le_refl _) o)).c7
  have HO2 : Hid (∀ o : Obj, ((W2.alloc o).drew).ownsRow B 100 3 (.slice va pre.length vc) pre.length (cellsChange pre)) := fun o => own_kept (w := W2) HO1.out (((Below.refl _ _).alloc (Nat.le_refl _) _).drew)
  have hnB : (Value.slice va pre.length vc).ownBlock ≠ some ab := own_not HO1.out HA2.out (by decide)
  have hlB := HLT.out
  have hpl : pre.length + 1 ≤ maxLen := by unfold maxLen; omega
  have hby : (pre.length + 1) * 40 ≤ 140737488355328 := by omega
  have HBL : Hid (∀ o : Obj, ((W2.alloc o).drew).heap[ab]? = some (.cells (askC sm c (.slice va pre.length vc)) 108 (0, 0))) := fun o => (Below.heap_alloc _ _ _ HA2.out.lt).trans HA2.out
  have HO3 : Hid (∀ o : Obj, ((W2.drew).alloc o).ownsRow B 100 3 (.slice va pre.length vc) pre.length (cellsChange pre)) := HO2.out
  have HBL3 : Hid (∀ o : Obj, ((W2.drew).alloc o).heap[ab]? = some (.cells (askC sm c (.slice va pre.length vc)) 108 (0, 0))) := HBL.out
  have hs2 := HB2.out.size
  go_region_law (first | (refine step_append_lies _ (by rfl) _ _ _ (by rfl) B 100 i0 _ 3 40 Tryd.underlying70 hi hz0 hz1 hz2 rfl (Nat.zero_lt_succ _) _ pre.length (cellsChange pre) (by rfl) (HO2.out _) ⟨W2.heap.size, 0, none⟩ 1 1 [.string K, .string V, .bool G] (by rfl) (by rfl) (World.news_of_block (cs := #[.string K, .string V, .bool G]) (t := 100) (fr := (0, 0)) (heap_alloc_new W2 _)) (change_news ⟨K, V, G⟩) (Nat.zero_lt_succ _) hpl hby (by simp; omega) (W2.heap.size + 1) (Array.size_push ..) ?_; intro g2 cap2 w8 hown8 hgrow hat hlt8; have hB8 := grown_keep_ij (HBL.out _) hgrow hnB; have cR8 : w8.cell? ⟨ab, 7, none⟩ = some (.slice va pre.length vc) := cell_of_row _ _ 7 _ _ _ hB8; have fR8 := frozen_of_row _ _ 7 _ _ hB8) | (refine step_append_lies _ (by rfl) _ _ _ (by rfl) B 100 i0 _ 3 40 Tryd.underlying70 hi hz0 hz1 hz2 rfl (Nat.zero_lt_succ _) _ pre.length (cellsChange pre) (by rfl) (HO3.out _) ⟨W2.heap.size, 0, none⟩ 1 1 [.string K, .string V, .bool G] (by rfl) (by rfl) (World.news_of_block (cs := #[.string K, .string V, .bool G]) (t := 100) (fr := (0, 0)) (heap_alloc_new W2.drew _)) (change_news ⟨K, V, G⟩) (Nat.zero_lt_succ _) hpl hby (by simp; omega) (W2.heap.size + 1) (Array.size_push ..) ?_; intro g2 cap2 w8 hown8 hgrow hat hlt8; have hB8 := grown_keep_ij (HBL3.out _) hgrow hnB; have cR8 : w8.cell? ⟨ab, 7, none⟩ = some (.slice va pre.length vc) := cell_of_row _ _ 7 _ _ _ hB8; have fR8 := frozen_of_row _ _ 7 _ _ hB8))
  all_goals
    have HFIN : Hid (ChgPost w B ab sm c (Value.slice va pre.length vc).ownBlock (pre ++ [⟨K, V, G⟩]) (w8.setCell ⟨ab, 7, none⟩ (.slice (some ⟨g2, 0, none⟩) (pre.length + 1) cap2))) := by
      have hask : Ask (w8.setCell ⟨ab, 7, none⟩ (.slice (some ⟨g2, 0, none⟩) (pre.length + 1) cap2)) ab sm c (.slice (some ⟨g2, 0, none⟩) (pre.length + 1) cap2) := by
        have := heap_setCell_same w8 ab 7 _ 108 (.slice (some ⟨g2, 0, none⟩) (pre.length + 1) cap2) hB8
        simp [askC] at this
        exact this
      have ho : w8.ownsRow B 100 3 (.slice (some ⟨g2, 0, none⟩) (pre.length + 1) cap2) (pre ++ [(⟨K, V, G⟩ : ChangeL)]).length (cellsChange (pre ++ [⟨K, V, G⟩])) := by
        rw [cellsChange_app, List.length_append]; exact hown8
      have bB : Below B w W2 := HB2.out.mono (by omega)
      have b1 : Below B w ((W2.alloc (Obj.cells #[.string K, .string V, .bool G] 100)).drew) := (bB.alloc (by have := bB.size; omega) _).drew
      have b2 : Below B w w8 := b1.grown hgrow (by have := b1.size; simp; omega) (fun q e => by
        rcases HO1.out.2 with ⟨e1, _⟩ | ⟨g3, cap3, cur3, e1, hg3, _⟩
        · rw [e1] at e; cases e
        · rw [e1] at e; cases e; exact hg3)
      refine ⟨_, hask, own_set ho _ _ _ (own_not ho hB8 (by decide)), b2.setCell (by show B ≤ ab; omega) _, ?_, fun q o hq n1 n2 => ?_⟩
      · have := hgrow.size
        simp at this ⊢
        omega
      · have hl : q < w.heap.size := (Array.getElem?_eq_some_iff.1 hq).1
        have h2 : W2.heap[q]? = some o := (HB2.out.block _ hl).trans hq
        have h3 : ((W2.alloc (Obj.cells #[.string K, .string V, .bool G] 100)).drew).heap[q]? = some o := (Below.heap_alloc _ _ _ (by omega)).trans h2
        exact set_far (grown_keep_ij h3 hgrow n2) n1 _ _
    clear hown8 hgrow hat hlt8 hB8
    go_wp2
    go_end0
    exact ⟨rfl, HFIN.out⟩
end Go.Proofs.YtpedpdgkbmpfjaaDoor
