/- The program's asked, walked, where the op is done. -/
import Derived.Test.YtpedpdgkbmpfjaaDoorAsked
namespace Go.Proofs.YtpedpdgkbmpfjaaDoor
open Go.RowKit
open Acts (decS skey sval nkey kkey sess parse Enc get nextN least pickL findS opC opR opM doneM openM leftM)
set_option linter.unusedVariables false
set_option linter.unusedSimpArgs false

theorem law_call {P : Program} {ops : Array Oper} {o : Oper} {a : Act} {w : World} {K : Act → World → Prop} {Q : Exit → Act → World → Prop} {E : Prop} {f : Nat} {args : Array Value} {u : Value} {R : World → Prop} (hg : o.guard = none) (he : (execOp a.eval o).run P w = .ok (.enter f args) w)
    (hc : Calls P f args w fun e w' => e = .returned u ∧ R w') (h : ∀ w', R w' → K (a.put o.dst u) w') : if Region.wanted o (yielded ops a.tmps) = true then Oper.wp P o a w K Q else E := by
  rw [if_pos (by simp [Region.wanted, hg])]
  exact Inv.pay_call he hc h
set_option maxHeartbeats 4000000 in
set_option maxRecDepth 100000 in
theorem asked_core {T fn : Nat} {a b : Option Addr} {g off cap capb g2 off2 i : Nat} (m : List PairL) (hG : Acts.Good T m) (hT : T ≤ 30) (L : List Ses) (hL : L.length ≤ 200) (c : CmdL) (hk : c.key.size ≤ 9) (s : Ses) (h1 : s.id ≤ 99) (h2 : s.seq ≤ 90) (hi : i ≤ 99)
    (hlook : ∀ (W : World) (r : Nat), W.heap[r]? = some (.map opsM 4) → (Instr.lookup 110 (.map (some r)) (.int .i64 c.op) false).run Tryd.prog W = .ok (opF fn) W)
    (hent : ∀ (args : Array Value) (W : World), (callFunc fn args).run Tryd.prog W = .ok (.enter fn args) W)
    (hop : ∀ (W : World) (B ab : Nat), B ≤ ab → Ask W ab (.slice a m.length cap) c (.slice none 0 0) → PairAt W a g off m → Calls Tryd.prog fn #[.pointer (some ⟨ab, 0, none⟩)] W fun e w' => e = .returned (.string (opR m c)) ∧ ChgPost W B ab (.slice a m.length cap) c none (opC m c) w')
    (hn : L.find? (fun s => (s.id : Int) == c.ses) = some s) (hq : c.seq = (s.seq : Int) + 1) (w : World) (hfm : PairAt w a g off m) (hf : SesAt w b g2 off2 L) :
    Calls Tryd.prog 37 #[.slice a m.length cap, .int .i64 (i : Int), .agg #[.int .i64 c.op, .int .i64 c.ses, .int .i64 c.seq, .string c.key, .string c.val, .string c.old], .slice b L.length capb] w fun e w' => ∃ v, e = .returned (.tuple #[v, .string (opR m c)]) ∧ w'.ownsRow w.heap.size 100 3 v (opC m c ++ [(⟨skey s.id, sval ⟨s.id, c.seq.toNat, i, opR m c⟩, false⟩ : ChangeL)]).length (cellsChange (opC m c ++ [(⟨skey s.id, sval ⟨s.id, c.seq.toNat, i, opR m c⟩, false⟩ : ChangeL)])) ∧ Below w.heap.size w w' := by
  obtain ⟨i0, hi0, hz0, hz1, hz2⟩ := info_parts Tryd.info100
  have hA : Below w.heap.size w (w.alloc (Obj.cells #[.int .i64 c.op, .int .i64 c.ses, .int .i64 c.seq, .string c.key, .string c.val, .string c.old] 31)) := (Below.refl _ _).alloc (Nat.le_refl _) _
  have HB : Hid (Below w.heap.size w (w.alloc (Obj.cells #[.int .i64 c.op, .int .i64 c.ses, .int .i64 c.seq, .string c.key, .string c.val, .string c.old] 31))) := hA
  have HQ : Hid (Calls Tryd.prog 64 #[.slice b L.length capb, .int .i64 c.ses] (w.alloc (Obj.cells #[.int .i64 c.op, .int .i64 c.ses, .int .i64 c.seq, .string c.key, .string c.val, .string c.old] 31)) fun e w' => e = .returned (.tuple #[.agg #[.int .i64 (s.id : Int), .int .i64 (s.seq : Int), .int .i64 (s.at_ : Int), .string s.rep], .bool true]) ∧ Below (w.alloc (Obj.cells #[.int .i64 c.op, .int .i64 c.ses, .int .i64 c.seq, .string c.key, .string c.val, .string c.old] 31)).heap.size (w.alloc (Obj.cells #[.int .i64 c.op, .int .i64 c.ses, .int .i64 c.seq, .string c.key, .string c.val, .string c.old] 31)) w') := (sesOf64_is L hL c.ses _ (hf.kept hA)).mono fun e w' ⟨h1, h2⟩ => ⟨by rw [h1]; unfold foundV; rw [hn]; rfl, h2⟩
  obtain ⟨R, hR⟩ : ∃ R, R = opR m c := ⟨_, rfl⟩
  obtain ⟨cs, hcs⟩ : ∃ cs, cs = opC m c := ⟨_, rfl⟩
  obtain ⟨ch, hch⟩ : ∃ ch : ChangeL, ch = ⟨skey s.id, sval ⟨s.id, c.seq.toNat, i, opR m c⟩, false⟩ := ⟨_, rfl⟩
  have hRs : R.size ≤ 9 := by rw [hR]; exact Acts.opR_size hG.enc c
  have hsq : c.seq = ((c.seq.toNat : Nat) : Int) := by omega
  have HPU : Hid (∀ W, Calls Tryd.prog 63 #[.agg #[.int .i64 (s.id : Int), .int .i64 c.seq, .int .i64 (i : Int), .string R]] W fun e w' => e = .returned (.agg #[.string ch.key, .string ch.value, .bool ch.gone]) ∧ Below W.heap.size W w') := fun W => by
    have := putting_is ⟨s.id, c.seq.toNat, i, opR m c⟩ h1 (by show c.seq.toNat ≤ 99; omega) hi (by show (opR m c).size ≤ 1000; rw [← hR]; omega) W
    unfold sesV chV at this
    simp only at this
    rw [← hsq, ← hR] at this
    rw [hch, ← hR]
    exact this
  have HOP : Hid (∀ (W : World) (B ab : Nat), B ≤ ab → Ask W ab (.slice a m.length cap) c (.slice none 0 0) → PairAt W a g off m → Calls Tryd.prog fn #[.pointer (some ⟨ab, 0, none⟩)] W fun e w' => e = .returned (.string R) ∧ ChgPost W B ab (.slice a m.length cap) c none cs w') := by rw [hR, hcs]; exact hop
  have HLK : Hid (∀ (W : World) (r : Nat), W.heap[r]? = some (.map opsM 4) → (Instr.lookup 110 (.map (some r)) (.int .i64 c.op) false).run Tryd.prog W = .ok (opF fn) W) := hlook
  have HEN : Hid (∀ (args : Array Value) (W : World), (callFunc fn args).run Tryd.prog W = .ok (.enter fn args) W) := hent
  have HFM : Hid (PairAt w a g off m) := hfm
  have hcl : cs.length ≤ 1 := by rw [hcs]; unfold opC; (repeat' split) <;> simp
  rw [← hch, ← hR, ← hcs]
  have q1 : ¬ c.seq < (s.seq : Int) := by omega
  have q2' : (c.seq == (s.seq : Int)) = false := by simp; omega
  have q3 : ¬ (s.seq : Int) + 1 < c.seq := by omega
  have hs1 : (s.seq : Int) ≤ 90 := by omega
  clear hA hf hn hq hop hlook hent hR hcs hch hsq hG hfm
  go_enter Tryd.func37, Tryd.ntmps37
  go_wp2_with fail
  refine Calls.mono HQ.out ?_
  rintro e w1 ⟨rfl, hb1⟩
  have HB1 : Hid (Below w.heap.size w w1) := HB.out.trans (hb1.mono HB.out.size)
  have HC1 : Hid (∀ W, Below w1.heap.size w1 W → W.heap[w.heap.size]? = some (.cells #[.int .i64 c.op, .int .i64 c.ses, .int .i64 c.seq, .string c.key, .string c.val, .string c.old] 31 (0, 0))) := fun W hb => cmd_kept (hb1.trans (hb.mono hb1.size))
  obtain ⟨x0, x1, x2, x3, x4, x5⟩ : (w1.alloc (Obj.cells #[.int .i64 (s.id : Int), .int .i64 (s.seq : Int), .int .i64 (s.at_ : Int), .string s.rep] 92)).cell? ⟨w.heap.size, 0, none⟩ = some (.int .i64 c.op) ∧ (w1.alloc (Obj.cells #[.int .i64 (s.id : Int), .int .i64 (s.seq : Int), .int .i64 (s.at_ : Int), .string s.rep] 92)).cell? ⟨w.heap.size, 1, none⟩ = some (.int .i64 c.ses) ∧ (w1.alloc (Obj.cells #[.int .i64 (s.id : Int), .int .i64 (s.seq : Int), .int .i64 (s.at_ : Int), .string s.rep] 92)).cell? ⟨w.heap.size, 2, none⟩ = some (.int .i64 c.seq) ∧ (w1.alloc (Obj.cells #[.int .i64 (s.id : Int), .int .i64 (s.seq : Int), .int .i64 (s.at_ : Int), .string s.rep] 92)).cell? ⟨w.heap.size, 3, none⟩ = some (.string c.key) ∧ (w1.alloc (Obj.cells #[.int .i64 (s.id : Int), .int .i64 (s.seq : Int), .int .i64 (s.at_ : Int), .string s.rep] 92)).cell? ⟨w.heap.size, 4, none⟩ = some (.string c.val) ∧ (w1.alloc (Obj.cells #[.int .i64 (s.id : Int), .int .i64 (s.seq : Int), .int .i64 (s.at_ : Int), .string s.rep] 92)).cell? ⟨w.heap.size, 5, none⟩ = some (.string c.old) := by
    have p := HC1.out _ ((Below.refl _ _).alloc (Nat.le_refl _) (Obj.cells #[.int .i64 (s.id : Int), .int .i64 (s.seq : Int), .int .i64 (s.at_ : Int), .string s.rep] 92))
    exact ⟨cell_of_row _ _ 0 _ _ _ p, cell_of_row _ _ 1 _ _ _ p, cell_of_row _ _ 2 _ _ _ p, cell_of_row _ _ 3 _ _ _ p, cell_of_row _ _ 4 _ _ _ p, cell_of_row _ _ 5 _ _ _ p⟩
  have HL1 : Hid (w.heap.size < w1.heap.size) := (Array.getElem?_eq_some_iff.1 (HC1.out _ (Below.refl _ _))).1
  clear hb1
  go_wp2_with fail
  clear x0 x1 x2 x3 x4 x5
  obtain ⟨W2, hW2⟩ : ∃ W2, W2 = (w1.alloc (Obj.cells #[.int .i64 (s.id : Int), .int .i64 (s.seq : Int), .int .i64 (s.at_ : Int), .string s.rep] 92)).alloc (Obj.cells #[.slice a m.length cap, .int .i64 c.op, .int .i64 c.ses, .int .i64 c.seq, .string c.key, .string c.val, .string c.old, .slice none 0 0] 108) := ⟨_, rfl⟩
  have hb2 : Below w1.heap.size w1 W2 := by rw [hW2]; exact two_bel _ _
  obtain ⟨ab, hab⟩ : ∃ ab, ab = w1.heap.size + 1 := ⟨_, rfl⟩
  obtain ⟨sb, hsb⟩ : ∃ sb, sb = w1.heap.size := ⟨_, rfl⟩
  obtain ⟨cb, hcb⟩ : ∃ cb, cb = w.heap.size := ⟨_, rfl⟩
  have hask : Ask W2 ab (.slice a m.length cap) c (.slice none 0 0) := by
    have p := heap_alloc_new (w1.alloc (Obj.cells #[.int .i64 (s.id : Int), .int .i64 (s.seq : Int), .int .i64 (s.at_ : Int), .string s.rep] 92)) (Obj.cells #[.slice a m.length cap, .int .i64 c.op, .int .i64 c.ses, .int .i64 c.seq, .string c.key, .string c.val, .string c.old, .slice none 0 0] 108)
    have e : (w1.alloc (Obj.cells #[.int .i64 (s.id : Int), .int .i64 (s.seq : Int), .int .i64 (s.at_ : Int), .string s.rep] 92)).heap.size = w1.heap.size + 1 := by simp
    rw [e] at p
    rw [hW2, hab]
    exact p
  have hsc : W2.heap[sb]? = some (.cells #[.int .i64 (s.id : Int), .int .i64 (s.seq : Int), .int .i64 (s.at_ : Int), .string s.rep] 92 (0, 0)) := by
    rw [hW2, hsb, Below.heap_alloc _ _ _ (by simp)]
    exact heap_alloc_new w1 _
  have hcc : W2.heap[cb]? = some (.cells #[.int .i64 c.op, .int .i64 c.ses, .int .i64 c.seq, .string c.key, .string c.val, .string c.old] 31 (0, 0)) := by rw [hcb]; exact HC1.out _ hb2
  have HAS : Hid (Ask W2 ab (.slice a m.length cap) c (.slice none 0 0)) := hask
  have HSC : Hid (W2.heap[sb]? = some (.cells #[.int .i64 (s.id : Int), .int .i64 (s.seq : Int), .int .i64 (s.at_ : Int), .string s.rep] 92 (0, 0))) := hsc
  have HCC : Hid (W2.heap[cb]? = some (.cells #[.int .i64 c.op, .int .i64 c.ses, .int .i64 c.seq, .string c.key, .string c.val, .string c.old] 31 (0, 0))) := hcc
  have HB2 : Hid (Below w.heap.size w W2) := HB1.out.trans (hb2.mono HB1.out.size)
  have HNE : Hid (sb ≠ ab ∧ cb ≠ ab ∧ w.heap.size ≤ ab ∧ ab < W2.heap.size) := by
    have := HL1.out
    refine ⟨by omega, by omega, by omega, ?_⟩
    exact hask.lt
  rw [← hW2, ← hab, ← hsb, ← hcb]
  have y0 := cell_of_row _ _ 0 _ _ _ hcc
  simp at y0
  have HM2 : Hid (PairAt W2 a g off m) := HFM.out.kept HB2.out
  clear hW2 hab hsb hcb hb2 hask hsc hcc HB HQ HC1 HL1 HB1 HFM
  have y0d : ∀ o : Obj, (W2.alloc o).cell? ⟨cb, 0, none⟩ = some (.int .i64 c.op) := fun o => by
    have p := (Below.heap_alloc W2 o cb (Array.getElem?_eq_some_iff.1 HCC.out).1).trans HCC.out
    exact cell_of_row _ _ 0 _ _ _ p
  have hlk := HLK.out (W2.drew.alloc (.map opsM 4)) W2.heap.size (heap_alloc_new W2.drew _)
  have hlk2 : (Instr.lookup 110 (.map (some W2.heap.size)) (.int .i64 c.op) false).run Tryd.prog (W2.alloc (.map opsM 4)).drew = .ok (opF fn) (W2.alloc (.map opsM 4)).drew := HLK.out _ W2.heap.size (heap_alloc_new W2 _)
  unfold opF at hlk hlk2
  have hent := HEN.out
  have henter : ∀ W : World, (callFunc 66 #[]).run Tryd.prog W = .ok (.enter 66 #[]) W := fun _ => by kernel_rfl
  go_region_law (first | (refine law_call (f := 66) (args := #[]) (u := .map (some W2.heap.size)) (R := fun w' => w' = W2.drew.alloc (.map opsM 4)) rfl (by first | (simp [execOp, go_sem]; done) | (simp [execOp, go_sem]; rfl)) (ops_is W2.drew) ?_; rintro w3 rfl) | (refine law_call (f := fn) (args := #[.pointer (some ⟨ab, 0, none⟩)]) (u := .string R) (R := fun w' => ChgPost ((W2.alloc (.map opsM 4)).drew) w.heap.size ab (.slice a m.length cap) c none cs w') rfl (by simp [execOp, go_sem, hent]) (HOP.out _ _ _ HNE.out.2.2.1 (HAS.out.below (((Below.refl _ _).alloc (Nat.le_refl _) _).drew)) (HM2.out.kept (((Below.refl _ _).alloc (Nat.le_refl _) _).drew))) ?_; rintro w5 hp5) | fail)
  all_goals
    obtain ⟨v, hA5, ho5, hB5, hs5, hk5⟩ := hp5
    obtain ⟨va, vc, rfl⟩ := own_slice ho5
    have hsc5 : w5.heap[sb]? = some (.cells #[.int .i64 (s.id : Int), .int .i64 (s.seq : Int), .int .i64 (s.at_ : Int), .string s.rep] 92 (0, 0)) := hk5 sb _ ((Below.heap_alloc W2 (.map opsM 4) sb (Array.getElem?_eq_some_iff.1 HSC.out).1).trans HSC.out) HNE.out.1 (by intro e; cases e)
    have hcc5 : w5.heap[cb]? = some (.cells #[.int .i64 c.op, .int .i64 c.ses, .int .i64 c.seq, .string c.key, .string c.val, .string c.old] 31 (0, 0)) := hk5 cb _ ((Below.heap_alloc W2 (.map opsM 4) cb (Array.getElem?_eq_some_iff.1 HCC.out).1).trans HCC.out) HNE.out.2.1 (by intro e; cases e)
    have b3 : Below w.heap.size w ((W2.alloc (.map opsM 4)).drew) := (HB2.out.alloc HB2.out.size _).drew
    have HB5 : Hid (Below w.heap.size w w5) := b3.trans hB5
    have HA5 : Hid (Ask w5 ab (.slice a m.length cap) c (.slice va cs.length vc)) := hA5
    have HO5 : Hid (w5.ownsRow w.heap.size 100 3 (.slice va cs.length vc) cs.length (cellsChange cs)) := ho5
    have u0 := cell_of_row _ _ 0 _ _ _ hsc5
    have u2 := cell_of_row _ _ 2 _ _ _ hcc5
    simp at u0 u2
    clear hA5 ho5 hB5 hs5 hk5 hsc5 hcc5 b3 HAS HSC HCC HB2 HM2 y0 y0d hlk hlk2 hent henter
    go_wp2_with fail
    clear u0 u2
    obtain ⟨W6, hW6⟩ : ∃ W6, W6 = w5.alloc (Obj.cells #[.int .i64 (s.id : Int), .int .i64 c.seq, .int .i64 (i : Int), .string R] 92) := ⟨_, rfl⟩
    have hb6 : Below w5.heap.size w5 W6 := by rw [hW6]; exact (Below.refl _ _).alloc (Nat.le_refl _) _
    have hn6 : W6.heap[w5.heap.size]? = some (.cells #[.int .i64 (s.id : Int), .int .i64 c.seq, .int .i64 (i : Int), .string R] 92 (0, 0)) := by rw [hW6]; exact heap_alloc_new w5 _
    obtain ⟨nb, hnb⟩ : ∃ nb, nb = w5.heap.size := ⟨_, rfl⟩
    rw [← hnb] at hn6
    rw [← hW6, ← hnb]
    have HA6 : Hid (Ask W6 ab (.slice a m.length cap) c (.slice va cs.length vc)) := HA5.out.below hb6
    have HO6 : Hid (W6.ownsRow w.heap.size 100 3 (.slice va cs.length vc) cs.length (cellsChange cs)) := own_kept HO5.out hb6
    have HB6 : Hid (Below w.heap.size w W6) := HB5.out.trans (hb6.mono HB5.out.size)
    have a7 := HA6.out.c7
    have n0 := cell_of_row _ _ 0 _ _ _ hn6
    have n1 := cell_of_row _ _ 1 _ _ _ hn6
    have n2 := cell_of_row _ _ 2 _ _ _ hn6
    have n3 := cell_of_row _ _ 3 _ _ _ hn6
    simp at n0 n1 n2 n3
    have hpl : cs.length + 1 ≤ maxLen := by unfold maxLen; omega
    have hby : (cs.length + 1) * 40 ≤ 140737488355328 := by omega
    have hs6 := HB6.out.size
    have henter : ∀ (u : Array Value) (W : World), (callFunc 63 u).run Tryd.prog W = .ok (.enter 63 u) W := fun _ _ => by kernel_rfl
    clear hW6 hb6 hnb hn6 HA5 HO5 HB5
    go_region_law (first | (refine law_call (f := 63) (args := #[.agg #[.int .i64 (s.id : Int), .int .i64 c.seq, .int .i64 (i : Int), .string R]]) (u := .agg #[.string ch.key, .string ch.value, .bool ch.gone]) (R := fun w' => Below W6.drew.heap.size W6.drew w') rfl (by first | (simp [execOp, go_sem, henter]; done) | (simp [execOp, go_sem, henter]; rfl)) (HPU.out W6.drew) ?_; rintro wa hba0; have hba := below_undrew hba0; clear hba0; have HAa : Hid (Ask wa ab (.slice a m.length cap) c (.slice va cs.length vc)) := HA6.out.below hba; have HOa : Hid (wa.ownsRow w.heap.size 100 3 (.slice va cs.length vc) cs.length (cellsChange cs)) := own_kept HO6.out hba; have HBa : Hid (Below w.heap.size w wa) := HB6.out.trans (Below.mono hba HB6.out.size); have a7a := HAa.out.c7; have a7b := fun o : Obj => (HAa.out.below ((Below.refl _ _).alloc (Nat.le_refl _) o)).c7; have hsa := HBa.out.size; clear hba) | (refine step_append_lies _ (by rfl) _ _ _ (by rfl) w.heap.size 100 i0 _ 3 40 Tryd.underlying70 hi0 hz0 hz1 hz2 rfl (Nat.zero_lt_succ _) _ cs.length (cellsChange cs) (by rfl) (own_kept HOa.out ((Below.refl _ _).alloc (Nat.le_refl _) _)) ⟨wa.heap.size, 0, none⟩ 1 1 [.string ch.key, .string ch.value, .bool ch.gone] (by rfl) (by rfl) (World.news_of_block (cs := #[.string ch.key, .string ch.value, .bool ch.gone]) (t := 100) (fr := (0, 0)) (heap_alloc_new wa _)) (change_news ch) (Nat.zero_lt_succ _) hpl hby (by simp; omega) (wa.heap.size + 1) (Array.size_push ..) ?_; intro g8 cap8 w8 hown8 hgrow hat hlt8) | fail)
    all_goals
      have HFIN : Hid (w8.ownsRow w.heap.size 100 3 (.slice (some ⟨g8, 0, none⟩) (cs.length + 1) cap8) (cs ++ [ch]).length (cellsChange (cs ++ [ch])) ∧ Below w.heap.size w w8) := by
        refine ⟨by rw [cellsChange_app, List.length_append]; exact hown8, ?_⟩
        have b1 : Below w.heap.size w (wa.alloc (Obj.cells #[.string ch.key, .string ch.value, .bool ch.gone] 100)) := HBa.out.alloc HBa.out.size _
        exact b1.grown hgrow b1.size (fun q e => by
          rcases HOa.out.2 with ⟨e1, _⟩ | ⟨g3, cap3, cur3, e1, hg3, _⟩
          · rw [e1] at e; cases e
          · rw [e1] at e; cases e; exact hg3)
      clear hown8 hgrow hat hlt8
      go_wp2
      go_ret2
      exact ⟨_, rfl, HFIN.out.1, HFIN.out.2⟩
end Go.Proofs.YtpedpdgkbmpfjaaDoor
