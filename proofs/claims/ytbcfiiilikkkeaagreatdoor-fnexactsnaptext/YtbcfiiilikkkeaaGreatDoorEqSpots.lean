/- The specification's SnapText: the first frame of a merged shelf, walked. The library's slices.Equal at lists of spots, walked. -/
import Derived.Test.YtbcfiiilikkkeaaGreatDoorImplFirst
import Derived.Test.YtbcfiiilikkkeaaGreatDoorShelfArg
import Derived.Test.YtbcfiiilikkkeaaGreatDoorSh
namespace Go.Proofs.YtbcfiiilikkkeaaGreatDoor
open Go.RowKit
open Shelves (OpenIs)
set_option linter.unusedVariables false
set_option linter.unusedSimpArgs false

theorem firstTuple_is (O : Option ByteArray) : ∃ (S : ByteArray) (R : Bool), firstTuple O = .tuple #[.string S, .bool R] := by
  cases O with
  | none => exact ⟨_, _, rfl⟩
  | some f => exact ⟨_, _, rfl⟩
namespace Shelves
def headOf (m : ManL) : Int := m.segs.headD 0
/-- What SnapText answers. -/
def SnapIs (l : List FileL) (s : ShelfL) (O : Option ByteArray) : Prop := ∃ t rs c, OpenIs l t rs c ∧ ((c = 0 ∧ s = t ∧ s.man.base ≠ 0 ∧ O = firstOf (Disks.textOf l (segName (headOf s.man))) s.man.base) ∨ (¬ (c = 0 ∧ s = t ∧ s.man.base ≠ 0) ∧ O = none))
theorem snap_ex (l : List FileL) (s : ShelfL) : ∃ O, SnapIs l s O := by
  obtain ⟨t, rs, c, h⟩ := open_ex l
  by_cases hc : c = 0 ∧ s = t ∧ s.man.base ≠ 0
  · exact ⟨_, t, rs, c, h, Or.inl ⟨hc.1, hc.2.1, hc.2.2, rfl⟩⟩
  · exact ⟨_, t, rs, c, h, Or.inr ⟨hc, rfl⟩⟩
theorem open_good {l : List FileL} {t : ShelfL} {rs : List Disks.RawL} (h : OpenIs l t rs 0) : Disks.ok l ∧ Mans.ok t.man := by
  rcases h with ⟨h, _⟩ | ⟨_, h, _⟩
  · obtain ⟨e, hL⟩ := opens_loads h
    obtain ⟨x, _, q⟩ := hL.man
    exact ⟨hL.disk, q.2⟩
  · exact absurd rfl h
theorem headD_at : ∀ (x : List Int) (h : 0 < x.length), x[0] = x.headD 0
  | [], h => absurd h (Nat.lt_irrefl _)
  | _ :: _, _ => rfl
theorem head_at {m : ManL} (h : 0 < m.segs.length) : m.segs[0] = headOf m := headD_at _ h
end Shelves
set_option maxHeartbeats 8000000 in
set_option maxRecDepth 100000 in
theorem snap9_any {a : Option Addr} {g off cap b : Nat} {va vc vd : Value} (l : List FileL) (hlen : l.length ≤ 1048576) (hsz : ∀ f ∈ l, f.1.size ≤ 1048576 ∧ f.2.size ≤ 1048576) (s : ShelfL) (n1 : s.man.segs.length ≤ 1048576) (n2 : s.man.conf.length ≤ 1048576) (n3 : s.dir.length ≤ 1048576) (O : Option ByteArray) (hO : Shelves.SnapIs l s O) (w : World) (hf : FilesAt w a g off l) (hA : ShOwn b s va vc vd w) :
    Calls Tryz.prog 48 #[.agg #[.slice a l.length cap], shV s va vc vd] w fun e w' => e = .returned (firstTuple O) ∧ Below w.heap.size w w' := by
  obtain ⟨t, rs, c, hO, hX⟩ := hO
  obtain ⟨u1, u2, u3, u4⟩ := Shelves.open_small hO
  obtain ⟨sa, sc, e1⟩ := own_slice hA.segs
  obtain ⟨ca, cc, e2⟩ := own_slice hA.conf
  obtain ⟨da, dc, e3⟩ := own_slice hA.dir
  subst e1 e2 e3
  obtain ⟨W, hW⟩ : ∃ W, W = (w.alloc (Obj.cells #[Value.slice a l.length cap] 46)).alloc (Obj.cells #[.slice sa s.man.segs.length sc, .int .i64 s.man.next, .int .i64 s.man.base, .int .i64 s.man.term, .slice ca s.man.conf.length cc, .slice da s.dir.length dc, .int .i64 s.stamp] 40) := ⟨_, rfl⟩
  have hb : Below w.heap.size w W := by rw [hW]; exact ((Below.refl _ _).alloc (Nat.le_refl _) _).alloc (by simp) _
  have hp0 : W.heap[w.heap.size]? = some (.cells #[Value.slice a l.length cap] 46 (0, 0)) := by rw [hW, Below.heap_alloc _ _ _ (by simp)]; exact heap_alloc_new w _
  have hp1 : W.heap[w.heap.size + 1]? = some (.cells #[.slice sa s.man.segs.length sc, .int .i64 s.man.next, .int .i64 s.man.base, .int .i64 s.man.term, .slice ca s.man.conf.length cc, .slice da s.dir.length dc, .int .i64 s.stamp] 40 (0, 0)) := by
    rw [hW]; have := heap_alloc_new (w.alloc (Obj.cells #[Value.slice a l.length cap] 46)) (Obj.cells #[.slice sa s.man.segs.length sc, .int .i64 s.man.next, .int .i64 s.man.base, .int .i64 s.man.term, .slice ca s.man.conf.length cc, .slice da s.dir.length dc, .int .i64 s.stamp] 40); simpa using this
  have HP0 : Hid (∀ W1, Below W.heap.size W W1 → W1.cell? ⟨w.heap.size, 0, none⟩ = some (.slice a l.length cap)) := fun W1 h => cell_of_row _ _ 0 _ _ _ ((h.block _ (Array.getElem?_eq_some_iff.1 hp0).1).trans hp0)
  have HP1 : Hid (∀ W1, Below W.heap.size W W1 → W1.heap[w.heap.size + 1]? = some (.cells #[.slice sa s.man.segs.length sc, .int .i64 s.man.next, .int .i64 s.man.base, .int .i64 s.man.term, .slice ca s.man.conf.length cc, .slice da s.dir.length dc, .int .i64 s.stamp] 40 (0, 0))) := fun W1 h => (h.block _ (Array.getElem?_eq_some_iff.1 hp1).1).trans hp1
  have HB : Hid (Below w.heap.size w W) := hb
  have HA : Hid (∀ W1, Below W.heap.size W W1 → ShOwn b s (.slice sa s.man.segs.length sc) (.slice ca s.man.conf.length cc) (.slice da s.dir.length dc) W1) := fun W1 h => (hA.kept hb).kept h
  have HFF : Hid (∀ W1, Below W.heap.size W W1 → FilesAt W1 a g off l) := fun W1 h => (hf.kept hb).kept h
  have c0 := cell_of_row _ _ 0 _ _ _ hp0
  have HO : Hid (Calls Tryz.prog 51 #[.agg #[.slice a l.length cap]] W (OpenPost W t rs c)) := specOpen_any l hlen hsz t rs c hO W (hf.kept hb)
  have HGD : Hid (c = 0 → Disks.ok l ∧ Mans.ok t.man) := fun h => by subst h; exact Shelves.open_good hO
  unfold shV cells7
  clear hO hA hf hb hp0 hp1 hsz
  rw [hW] at c0
  go_enter Tryz.func48, Tryz.ntmps48
  go_wp2_with fail
  rw [← hW]
  clear hW c0
  refine Calls.mono HO.out ?_
  rintro en w1 ⟨va, vc, vd, rv, rfl, hsh, hrw, hb1⟩
  unfold shV cells7
  obtain ⟨ta, tb, hva⟩ := own_slice hsh.segs
  subst hva
  obtain ⟨tc, td, hvc⟩ := own_slice hsh.conf
  subst hvc
  obtain ⟨te, tf, hvd⟩ := own_slice hsh.dir
  subst hvd
  obtain ⟨tg, th, hrv⟩ := own_slice hrw
  subst hrv
  obtain ⟨W2, hW2⟩ : ∃ W2, W2 = w1.alloc (Obj.cells #[.slice ta t.man.segs.length tb, .int .i64 t.man.next, .int .i64 t.man.base, .int .i64 t.man.term, .slice tc t.man.conf.length td, .slice te t.dir.length tf, .int .i64 t.stamp] 40) := ⟨_, rfl⟩
  have hb2 : Below w1.heap.size w1 W2 := by rw [hW2]; exact (Below.refl _ _).alloc (Nat.le_refl _) _
  have hbb : Below W.heap.size W W2 := hb1.trans (hb2.mono hb1.size)
  have HBB : Hid (Below W.heap.size W W2) := hbb
  have HW2 : Hid (Below w.heap.size w W2) := HB.out.trans (hbb.mono HB.out.size)
  have hq : W2.heap[w1.heap.size]? = some (.cells #[.slice ta t.man.segs.length tb, .int .i64 t.man.next, .int .i64 t.man.base, .int .i64 t.man.term, .slice tc t.man.conf.length td, .slice te t.dir.length tf, .int .i64 t.stamp] 40 (0, 0)) := by rw [hW2]; exact heap_alloc_new w1 _
  obtain ⟨⟨p0, p1, p2, p3, p4, p5, p6⟩, _⟩ := seven_cells (HP1.out _ hbb)
  obtain ⟨⟨q0, q1, q2, q3, q4, q5, q6⟩, _⟩ := seven_cells hq
  have HS : Hid (∀ R' : Bool, (R' = true ↔ s = t) → Calls Tryz.prog 113 #[shV s (.slice sa s.man.segs.length sc) (.slice ca s.man.conf.length cc) (.slice da s.dir.length dc), shV t (.slice ta t.man.segs.length tb) (.slice tc t.man.conf.length td) (.slice te t.dir.length tf)] W2 fun e w' => e = .returned (.bool R') ∧ Below W2.heap.size W2 w') := fun R' h' => same9_is s t n1 n2 n3 (by omega) (by omega) (by omega) R' h' W2 (HA.out _ hbb) (hsh.kept hb2)
  unfold shV cells7 at HS
  clear hsh hrw hb1 hb2 hbb hq HO
  rw [hW2] at p0 p1 p2 p3 p4 p5 p6 q0 q1 q2 q3 q4 q5 q6
  by_cases hc : c = 0
  · by_cases hst : s = t
    · have HST : Hid (s = t) := hst
      have HGE : Hid (Disks.ok l ∧ Mans.ok s.man) := by show _ ∧ _; rw [hst]; exact HGD.out hc
      have HX : Hid ((s.man.base ≠ 0 ∧ O = firstOf (Disks.textOf l (Shelves.segName (Shelves.headOf s.man))) s.man.base) ∨ (s.man.base = 0 ∧ O = none)) := by
        rcases hX with ⟨_, _, h1, h2⟩ | ⟨h1, h2⟩
        · exact Or.inl ⟨h1, h2⟩
        · exact Or.inr ⟨Classical.byContradiction fun h => h1 ⟨hc, hst, h⟩, h2⟩
      subst hc
      have HS1 : Hid _ := HS.out true ⟨fun _ => HST.out, fun _ => rfl⟩
      clear HS HGD hX hst
      go_wp2_with fail
      rw [← hW2]
      clear hW2 p0 p1 p2 p3 p4 p5 p6 q0 q1 q2 q3 q4 q5 q6
      refine Calls.mono HS1.out ?_
      rintro en w3 ⟨rfl, hb3⟩
      have HB3 : Hid (Below W.heap.size W w3) := HBB.out.trans (hb3.mono HBB.out.size)
      have HW3 : Hid (Below w.heap.size w w3) := HB.out.trans (HB3.out.mono HB.out.size)
      obtain ⟨⟨p0, p1, p2, p3, p4, p5, p6⟩, _⟩ := seven_cells (HP1.out _ HB3.out)
      have d0 := HP0.out _ HB3.out
      clear hb3 HS1 HBB HW2
      rcases HX.out with ⟨hb0, hOO⟩ | ⟨hb0, hOO⟩
      · have hbe : (s.man.base == 0) = false := beq_eq_false_iff_ne.2 hb0
        have HOO : Hid (O = firstOf (Disks.textOf l (Shelves.segName (Shelves.headOf s.man))) s.man.base) := hOO
        clear hb0 hOO HX
        have hs1 : 1 ≤ s.man.segs.length := HGE.out.2.1.1
        obtain ⟨_, sg, _, eS, hAt⟩ := cellsI_slice (HA.out _ HB3.out).segs
        cases eS
        have ea := hAt.1 (by omega)
        have c2 := hAt.2 0 (by omega)
        subst ea
        clear hAt
        obtain ⟨n, hn⟩ : ∃ n, n = Shelves.headOf s.man := ⟨_, rfl⟩
        have c2' : w3.cell? ⟨sg, 0, none⟩ = some (.int .i64 n) := by rw [hn, ← Shelves.head_at (by omega)]; simpa using c2
        obtain ⟨t2, ht2⟩ : ∃ t2, t2 = Disks.textOf l (Shelves.segName n) := ⟨_, rfl⟩
        have HTX : Hid (Disks.TextIs l (Shelves.segName n) t2) := by show Disks.TextIs _ _ _; rw [ht2]; exact Disks.text_of l _
        have ht20 : t2.size ≤ 20000 := by have := Shelves.text_le HGE.out.1 n; unfold Shelves.textAt at this; rw [← ht2, Scan.by_len] at this; exact this
        have HO2 : Hid (O = firstOf t2 s.man.base) := by show _ = _; rw [HOO.out, ← hn, ← ht2]
        have HCI : Hid (∀ W', Below w3.heap.size w3 W' → W'.cell? ⟨sg, 0, none⟩ = some (.int .i64 n)) := fun W' h => (h.cell (p := ⟨sg, 0, none⟩) (World.block_lt_of_cell? _ _ c2')).trans c2'
        have HCD : Hid (∀ W', Below w3.heap.size w3 W' → W'.cell? ⟨w.heap.size, 0, none⟩ = some (.slice a l.length cap)) := fun W' h => HP0.out _ (HB3.out.trans (h.mono HB3.out.size))
        obtain ⟨ln, hln⟩ : ∃ ln, ln = s.man.segs.length := ⟨_, rfl⟩
        have HCS : Hid (∀ W', Below w3.heap.size w3 W' → W'.cell? ⟨w.heap.size + 1, 0, none⟩ = some (.slice (some ⟨sg, 0, none⟩) ln sc) ∧ W'.cell? ⟨w.heap.size + 1, 2, none⟩ = some (.int .i64 s.man.base)) := fun W' h => by
          obtain ⟨⟨p0, _, p2, _⟩, _⟩ := seven_cells (HP1.out _ (HB3.out.trans (h.mono HB3.out.size)))
          exact ⟨by rw [hln]; exact p0, p2⟩
        have HFx : Hid (∀ W', Below w3.heap.size w3 W' → FilesAt W' a g off l) := fun W' h => HFF.out _ (HB3.out.trans (h.mono HB3.out.size))
        clear c2 hn ht2 HOO HA HFF HP0 HP1 HB3
        have hk1 : (0 : Int) < (ln : Int) := by omega
        have q2 := p2
        have hk2 : 0 < ln := by omega
        have hk3 : ¬ ln = 0 := by omega
        clear p0 hln hs1
        have B0 : Hid (Below w3.heap.size w3 w3.drew) := (Below.refl _ _).drew
        have HKQ : Hid (∀ W', Below w3.heap.size w3 W' → W'.cell? ⟨w.heap.size, 0, none⟩ = some (.slice a l.length cap) ∧ W'.cell? ⟨w.heap.size + 1, 0, none⟩ = some (.slice (some ⟨sg, 0, none⟩) ln sc) ∧ W'.cell? ⟨sg, 0, none⟩ = some (.int .i64 n)) := fun W' h => ⟨HCD.out _ h, (HCS.out _ h).1, HCI.out _ h⟩
        have hm20 : t2.size ≤ maxLen := by unfold maxLen; omega
        obtain ⟨ps, hps⟩ : ∃ ps, ps = unS t2 := ⟨_, rfl⟩
        have HPS : Hid (ps = unS t2) := hps
        have HUN : Hid (∀ W', Calls Tryz.prog 114 #[.string t2] W' fun e w' => UnPost ps (unE t2) W' e w') := fun W' => by rw [hps]; exact specUn_any t2 hm20 W'
        clear hps
        go_wp2_with fail
        go_region_held3 (fun w' => w'.cell? ⟨w.heap.size, 0, none⟩ = some (.slice a l.length cap) ∧ w'.cell? ⟨w.heap.size + 1, 0, none⟩ = some (.slice (some ⟨sg, 0, none⟩) ln sc) ∧ w'.cell? ⟨sg, 0, none⟩ = some (.int .i64 n))
          (first | (with_reducible exact HKQ.out _ B8) | (with_reducible exact HKQ.out _ B7) | (with_reducible exact HKQ.out _ B6) | (with_reducible exact HKQ.out _ B0.out))
          (first | (go_at_call 62; (with_reducible refine Calls.mono (specSeg_any n _) ?_); rintro e w6 ⟨rfl, hb6⟩; have B6 := B0.out.trans (hb6.mono B0.out.size)) | (go_at_call 63; (with_reducible refine Calls.mono (l03Text_is l hlen _ t2 HTX.out _ (HFx.out _ B6)) ?_); rintro e w7 ⟨rfl, hb7⟩; have B7 := B6.trans (hb7.mono B6.size)) | (go_at_call 114; (with_reducible refine Calls.mono (HUN.out _) ?_); rintro e w8 ⟨v, rfl, hown, hb8⟩; have B8 := B7.trans (hb8.mono B7.size)))
        have HB8 : Hid (Below w.heap.size w w8) := HW3.out.trans (B8.mono HW3.out.size)
        have HBX : Hid (∀ W', Below w8.heap.size w8 W' → W'.cell? ⟨w.heap.size + 1, 2, none⟩ = some (.int .i64 s.man.base)) := fun W' h => (HCS.out _ (B8.trans (h.mono B8.size))).2
        have HW1 : Hid (w8.ownsRow w7.heap.size 9 1 v ps.length (cellsS ps)) := hown
        obtain ⟨st0, hst0⟩ : ∃ st0, st0 = s.man.base := ⟨_, rfl⟩
        rw [← hst0] at HBX HO2
        clear hst0 hb6 hb7 hb8 B6 B7 B8 B0 HKQ HCD HCS HCI HFx HUN hbe p1 p2 p3 p4 p5 p6 q2 d0 c2' HW3
        cases ps with
        | nil =>
          have e0 : O = none := by rw [HO2.out]; unfold firstOf; rw [← HPS.out]
          obtain ⟨va, vc, hv⟩ := own_slice hown
          subst hv e0
          clear hown
          go_wp2
          go_ret2
          exact ⟨rfl, HB8.out⟩
        | cons r ps =>
          obtain ⟨va, vc, hv⟩ := own_slice hown
          subst hv
          obtain ⟨m, hm⟩ : ∃ m, m = (r :: ps).length := ⟨_, rfl⟩
          rw [← hm] at hown HW1 ⊢
          have hn0 : ((m : Int) == 0) = false := by
            rw [beq_eq_false_iff_ne]; simp at hm; omega
          have hn1 : (0 : Int) < (m : Int) := by simp at hm; omega
          obtain ⟨gq, hg, c0⟩ := cellS_zero (by simpa using hm) hown
          subst hg
          have HC0 : Hid (∀ W', Below w8.heap.size w8 W' → W'.cell? ⟨gq, 0, none⟩ = some (.string (bytesOf r))) := fun W' h => (h.cell (p := ⟨gq, 0, none⟩) (World.block_lt_of_cell? _ _ c0)).trans c0
          have hrl : (bytesOf r).size ≤ 20000 := by
            have : r ∈ unS t2 := by rw [← HPS.out]; exact List.mem_cons_self
            exact un_mem_size this
          cases hb : Scan.batOf (bytesOf r) with
          | none =>
            have e0 : O = none := by rw [HO2.out]; unfold firstOf; rw [← HPS.out]; simp only; rw [hb]
            subst e0
            have HR : Hid (∀ W', Calls Tryz.prog 115 #[.string (bytesOf r)] W' fun en w' => en = .returned (.tuple #[.agg #[.int .i64 0, .slice none 0 0], .bool false]) ∧ Below W'.heap.size W' w') := fun W' => specReadB_none (by omega) W' fun st l h => by rw [Scan.batOf_iff.2 h] at hb; cases hb
            clear hown hb hm hrl
            go_wp2_with fail
            refine Calls.mono (HR.out _) ?_
            rintro e w2 ⟨rfl, hb2⟩
            have HB2 : Hid (Below w.heap.size w w2) := HB8.out.trans (hb2.mono HB8.out.size)
            have HBF : Hid (Below w.heap.size w (w2.alloc (Obj.cells #[.int .i64 0, .slice none 0 0] 51))) := HB2.out.alloc HB2.out.size _
            clear hb2 c0
            go_wp2
            go_ret2
            exact ⟨rfl, HBF.out⟩
          | some q =>
            obtain ⟨st, ll⟩ := q
            have hG := Scan.batOf_iff.1 hb
            have hr0 : Batches.by_ (bytesOf r) = Batches.text st ll := hG.1
            have hrec := Scan.text_rec (st := st) (l := ll) hG.2
            have hz1 : 1 ≤ (bytesOf r).size ∧ (bytesOf r).size ≤ 9000 := by
              rw [← hr0] at hrec; unfold Words.okRec at hrec; rw [Scan.by_len] at hrec; exact hrec
            have HR : Hid (∀ W', Calls Tryz.prog 115 #[.string (bytesOf r)] W' fun en w' => ∃ v, en = .returned (.tuple #[.agg #[.int .i64 (st : Int), v], .bool true]) ∧ w'.ownsRow W'.heap.size 149 3 v ll.length (cellsChange ll) ∧ Below W'.heap.size W' w') := fun W' => specReadB_got (by omega) W' hG
            have HF : Hid (∀ W', Calls Tryz.prog 60 #[.string (bytesOf r)] W' fun e w' => e = .returned (.tuple #[.string (frameB (bytesOf r)), .bool true]) ∧ Below W'.heap.size W' w') := fun W' => specFrame_yes _ hz1.1 hz1.2 W'
            have hoo : O = if (st : Int) = st0 then some (frameB (bytesOf r)) else none := by rw [HO2.out]; unfold firstOf; rw [← HPS.out]; simp only; rw [hb]
            clear hown hb hm hrl hG hr0 hrec hz1
            go_wp2_with fail
            refine Calls.mono (HR.out _) ?_
            rintro e w2 ⟨v, rfl, ho2, hb2⟩
            obtain ⟨xa, xc, hv⟩ := own_slice ho2
            subst hv
            obtain ⟨W3, hW3⟩ : ∃ W3, W3 = w2.alloc (Obj.cells #[.int .i64 (st : Int), .slice xa ll.length xc] 51) := ⟨_, rfl⟩
            have hb3 : Below w2.heap.size w2 W3 := by rw [hW3]; exact (Below.refl _ _).alloc (Nat.le_refl _) _
            have hb13 : Below w8.heap.size w8 W3 := hb2.trans (hb3.mono hb2.size)
            have HB3 : Hid (Below w.heap.size w W3) := HB8.out.trans (hb13.mono HB8.out.size)
            have q0 : W3.cell? ⟨w2.heap.size, 0, none⟩ = some (.int .i64 (st : Int)) := by rw [hW3]; exact cell_of_row _ _ 0 _ _ _ (heap_alloc_new w2 _)
            have c3 := HC0.out _ hb13
            have x3 := HBX.out _ hb13
            clear ho2 hb2 hb3 hb13 c0 HR
            by_cases hst : (st : Int) = st0
            · rw [if_pos hst] at hoo
              subst hoo
              have hne : ((st : Int) != st0) = false := by simp [hst]
              clear hst
              rw [hW3] at q0 c3 x3
              go_wp2_with fail
              rw [← hW3]
              clear hW3 q0 c3 x3
              refine Calls.mono (HF.out _) ?_
              rintro e w4 ⟨rfl, hb4⟩
              have HB4 : Hid (Below w.heap.size w w4) := HB3.out.trans (hb4.mono HB3.out.size)
              clear hb4
              go_wp2
              go_ret2
              exact ⟨rfl, HB4.out⟩
            · rw [if_neg hst] at hoo
              subst hoo
              have hne : ((st : Int) != st0) = true := by simp [hst]
              clear hst
              rw [hW3] at q0 c3 x3
              go_wp2
              go_ret2
              exact ⟨rfl, by rw [← hW3]; exact HB3.out⟩
      · have hbe : (s.man.base == 0) = true := by rw [hb0]; rfl
        subst hOO
        clear HX hb0
        go_wp2
        go_ret2
        exact ⟨rfl, HW3.out⟩
    · have HS0 : Hid _ := HS.out false ⟨(fun h => by cases h), fun h => absurd h hst⟩
      have hOO : O = none := by
        rcases hX with ⟨_, h, _⟩ | ⟨_, h⟩
        · exact absurd h hst
        · exact h
      subst hOO hc
      clear HS HGD hX hst
      go_wp2_with fail
      rw [← hW2]
      clear hW2 p0 p1 p2 p3 p4 p5 p6 q0 q1 q2 q3 q4 q5 q6
      refine Calls.mono HS0.out ?_
      rintro en w3 ⟨rfl, hb3⟩
      have HW3 : Hid (Below w.heap.size w w3) := HW2.out.trans (hb3.mono HW2.out.size)
      clear hb3
      go_wp2
      go_ret2
      exact ⟨rfl, HW3.out⟩
  · have hOO : O = none := by
      rcases hX with ⟨h, _⟩ | ⟨_, h⟩
      · exact absurd h hc
      · exact h
    subst hOO
    have hn : (c != 0) = true := bne_iff_ne.2 hc
    clear hc hX HGD HS
    go_wp2
    go_ret2
    exact ⟨rfl, by rw [← hW2]; exact HW2.out⟩
end Go.Proofs.YtbcfiiilikkkeaaGreatDoor
namespace Go.Proofs.YtbcfiiilikkkeaaGreatDoor
open Go.RowKit
set_option linter.unusedVariables false
set_option linter.unusedSimpArgs false

set_option maxHeartbeats 8000000 in
set_option maxRecDepth 100000 in
theorem eqSpots_is {a b : Option Addr} {g off cap h oh cap' : Nat} (d d' : List SpotL) (n1 : d.length ≤ 1048576) (n2 : d'.length ≤ 1048576) (R : Bool) (hR : R = true ↔ d = d') (w : World) (hA : SpotAt w a g off d) (hB : SpotAt w b h oh d') :
    Calls Tryz.prog 178 #[.slice a d.length cap, .slice b d'.length cap'] w fun e w' => e = .returned (.bool R) ∧ Below w.heap.size w w' := by
  have HR : Hid (R = true ↔ d = d') := hR
  have HD : Hid (∀ W1, Below w.heap.size w W1 → SpotAt W1 a g off d ∧ SpotAt W1 b h oh d') := fun W1 q => ⟨hA.kept q, hB.kept q⟩
  clear hR hA hB
  go_enter Tryz.func178, Tryz.ntmps178
  by_cases kd : d.length = d'.length
  · have hcd : ((d.length : Int) != (d'.length : Int)) = false := by simp; omega
    go_wp2
    go_loopw [13] (fun i wr => ∃ k : Nat, k ≤ d.length ∧ i = .int .i64 (k : Int) ∧ (∀ j (h1 : j < d.length) (h2 : j < d'.length), j < k → d[j] = d'[j]) ∧ Below w.heap.size w wr)
      (fun i _ => d.length - (intOf i).toNat)
    case atStart => exact ⟨0, Nat.zero_le _, rfl, fun j _ _ q => absurd q (Nat.not_lt_zero _), Below.refl _ _⟩
    case round =>
      obtain ⟨k, hk, rfl, hsm, hbel⟩ := hrel
      have HSM : Hid (∀ j (h1 : j < d.length) (h2 : j < d'.length), j < k → d[j] = d'[j]) := hsm
      have HBL : Hid (Below w.heap.size w wr) := hbel
      clear hsm
      by_cases hlt : k < d.length
      · have hltm : k < d'.length := by omega
        obtain ⟨a0, a1, a2, a3⟩ := (HD.out _ hbel).1.2 k hlt
        obtain ⟨b0, b1, b2, b3⟩ := (HD.out _ hbel).2.2 k hltm
        have ea := (HD.out _ hbel).1.1 (by omega)
        have eb := (HD.out _ hbel).2.1 (by omega)
        subst ea eb
        obtain ⟨X, hX⟩ : ∃ X, X = d[k] := ⟨_, rfl⟩
        obtain ⟨Y, hY⟩ : ∃ Y, Y = d'[k] := ⟨_, rfl⟩
        rw [← hX] at a0 a1 a2 a3
        rw [← hY] at b0 b1 b2 b3
        have HX : Hid (X = d[k]) := hX
        have HY : Hid (Y = d'[k]) := hY
        clear hX hY hbel
        have hk0 : (0 : Int) ≤ (k : Int) := by omega
        have hk1 : (k : Int) < (d.length : Int) := by omega
        have hk2 : (k : Int) < (d'.length : Int) := by omega
        by_cases hxy : X = Y
        · have HXY : Hid (X = Y) := hxy
          rw [← hxy] at b0 b1 b2 b3
          clear hxy
          have hkey : (X.key.toList == X.key.toList) = true := by simp
          go_wp2
          have NE := Abv.ne wr
          have A0 := fun x : Abv wr => x.cell a0
          have A1 := fun x : Abv wr => x.cell a1
          have A2 := fun x : Abv wr => x.cell a2
          have A3 := fun x : Abv wr => x.cell a3
          have B0 := fun x : Abv wr => x.cell b0
          have B1 := fun x : Abv wr => x.cell b1
          have B2 := fun x : Abv wr => x.cell b2
          have B3 := fun x : Abv wr => x.cell b3
          refine wp_region_above (by kernel_rfl) (by kernel_rfl) ?_
          repeat (go_big_quiet_step (fail))
          refine wpQuiet_nil ?_
          rintro w1 ⟨⟨_, hb1⟩, rfl⟩
          clear NE A0 A1 A2 A3 B0 B1 B2 B3
          go_wp2
          go_roundw
          case rel =>
            refine ⟨k + 1, by omega, by go_num, fun j h1 h2 q => ?_, HBL.out.trans (hb1.mono HBL.out.size)⟩
            by_cases e : j = k
            · subst e; rw [← HX.out, ← HY.out]; exact HXY.out
            · exact HSM.out j h1 h2 (by omega)
          case measure => simp [intOf]; omega
        · have hRf : R = false := ans_no HR.out fun e => hxy (by rw [HX.out, HY.out]; cases e; rfl)
          subst hRf
          have hcases := spot_ne hxy
          clear hxy
          rcases hcases with r0 | ⟨r0, r1 | ⟨r1, r2 | ⟨r2, r3⟩⟩⟩
          all_goals
            try (have s0 := toList_ne r0)
            try (have s0 : (X.key.toList == Y.key.toList) = true := by rw [r0]; simp)
            try (have s1 : (X.seg == Y.seg) = false := beq_eq_false_iff_ne.2 r1)
            try (have s1 : (X.seg == Y.seg) = true := beq_iff_eq.2 r1)
            try (have s2 : (X.pos == Y.pos) = false := beq_eq_false_iff_ne.2 r2)
            try (have s2 : (X.pos == Y.pos) = true := beq_iff_eq.2 r2)
            try (have s3 : (X.size == Y.size) = false := beq_eq_false_iff_ne.2 r3)
            try clear r0
            try clear r1
            try clear r2
            try clear r3
            go_wp2
            have NE := Abv.ne wr
            have A0 := fun x : Abv wr => x.cell a0
            have A1 := fun x : Abv wr => x.cell a1
            have A2 := fun x : Abv wr => x.cell a2
            have A3 := fun x : Abv wr => x.cell a3
            have B0 := fun x : Abv wr => x.cell b0
            have B1 := fun x : Abv wr => x.cell b1
            have B2 := fun x : Abv wr => x.cell b2
            have B3 := fun x : Abv wr => x.cell b3
            refine wp_region_above (by kernel_rfl) (by kernel_rfl) ?_
            repeat (go_big_quiet_step (fail))
            refine wpQuiet_nil ?_
            rintro w1 ⟨⟨_, hb1⟩, rfl⟩
            clear NE A0 A1 A2 A3 B0 B1 B2 B3
            go_wp2
            go_ret
            exact ⟨rfl, HBL.out.trans (hb1.mono HBL.out.size)⟩
      · have hRt : R = true := HR.out.2 (List.ext_getElem kd fun j h1 h2 => HSM.out j h1 h2 (by omega))
        subst hRt
        have hk1 : ¬ (k : Int) < (d.length : Int) := by omega
        clear hbel
        go_wp2
        go_ret
        exact ⟨rfl, HBL.out⟩
  · have hRf : R = false := ans_no HR.out fun e => kd (by cases e; rfl)
    subst hRf
    have hcd : ((d.length : Int) != (d'.length : Int)) = true := by simp; omega
    go_wp2
    go_ret
    exact ⟨rfl, Below.refl _ _⟩
end Go.Proofs.YtbcfiiilikkkeaaGreatDoor
