/- The specification's AddBatch, where it begins a new segment, walked. -/
import Derived.Test.YtbcfiiilikkkeaaGreatDoorMathFormat
namespace Go.Proofs.YtbcfiiilikkkeaaGreatDoor
open Go.RowKit
set_option linter.unusedVariables false
set_option linter.unusedSimpArgs false

theorem sealed_small9 {m : ManL} (h : Mans.ok m) : (sealedS m).size ≤ 20000 := by
  have := Mans.text_len (Mans.ok_small h)
  show (Mans.sealed (Mans.text m)).toArray.size ≤ 20000
  rw [List.size_toArray, Shelves.sealed_len]
  omega
/-- The blocks of AddBatch that live to its end. -/
structure A9 (w : World) (D : Value) (bm : Nat) (cs : Array Value) (W : World) : Prop where
  p0 : W.heap[w.heap.size]? = some (.cells #[D] 46 (0, 0))
  p3 : W.heap[w.heap.size + 1 + 1 + 1]? = some (.cells #[.slice none 0 0, .int .i64 0, .int .i64 0, .int .i64 0, .slice none 0 0, .slice none 0 0, .int .i64 0] 40 (0, 0))
  man : W.heap[bm]? = some (.cells cs 37 (0, 0))
  lt : w.heap.size + 1 + 1 + 1 < bm
  bel : Below w.heap.size w W
theorem A9.same {w W W' : World} {D : Value} {bm : Nat} {cs : Array Value} (h : A9 w D bm cs W) (hb : Below W.heap.size W W') : A9 w D bm cs W' :=
  ⟨(hb.block _ (Array.getElem?_eq_some_iff.1 h.p0).1).trans h.p0, (hb.block _ (Array.getElem?_eq_some_iff.1 h.p3).1).trans h.p3, (hb.block _ (Array.getElem?_eq_some_iff.1 h.man).1).trans h.man, h.lt, h.bel.trans (hb.mono h.bel.size)⟩
theorem A9.grow {w W W' : World} {D : Value} {bm : Nat} {cs : Array Value} {e k n : Nat} {v : Value} {xs : List Value} (h : A9 w D bm cs W) (ho : W.ownsRow w.heap.size e k v n xs) (h1 : e ≠ 46) (h2 : e ≠ 40) (h3 : e ≠ 37) (hg : W.grownBy W' v.ownBlock) : A9 w D bm cs W' :=
  ⟨grown_keep' h.p0 hg (own_not ho h.p0 h1), grown_keep' h.p3 hg (own_not ho h.p3 h2), grown_keep' h.man hg (own_not ho h.man h3), h.lt, h.bel.grown hg h.bel.size (fun k e => (ho.lt k e).1)⟩
theorem A9.set {w W : World} {D : Value} {bm : Nat} {cs : Array Value} (h : A9 w D bm cs W) (j : Nat) (v : Value) : A9 w D bm (cs.setIfInBounds j v) (W.setCell ⟨bm, j, none⟩ v) :=
  ⟨set_far h.p0 (by have := h.lt; omega) _ _, set_far h.p3 (by have := h.lt; omega) _ _, heap_setCell_same W _ j cs 37 v h.man, h.lt, h.bel.setCell (by show w.heap.size ≤ bm; have := h.lt; omega) _⟩
/-- A row stays where another row grows. -/
theorem own_apart_kept {W W' : World} {b b' e e' k k' n n' : Nat} {v v' : Value} {xs xs' : List Value} (h : W.ownsRow b e k v n xs) (h' : W.ownsRow b' e' k' v' n' xs') (hne : e' ≠ e) (hg : W.grownBy W' v'.ownBlock) : W'.ownsRow b e k v n xs := by
  refine h.kept hg ?_
  rcases h.2 with ⟨rfl, _⟩ | ⟨g, cap, cur, rfl, _, hh, _⟩
  · exact Or.inl rfl
  · right
    intro q
    exact own_not h' hh hne q.symm
theorem apart_kept {W W' : World} {b e k n : Nat} {v v' : Value} {xs : List Value} (h : W.ownsRow b e k v n xs) (ha : Apart v' v) (hg : W.grownBy W' v'.ownBlock) : W'.ownsRow b e k v n xs := by
  refine h.kept hg ?_
  cases q : v.ownBlock with
  | none => exact Or.inl rfl
  | some g => right; intro e; exact ha g e.symm q
set_option maxHeartbeats 8000000 in
set_option maxRecDepth 100000 in
theorem add9_new {a ba : Option Addr} {g off cap bg boff bc b : Nat} {va vc vd : Value} (l : List FileL) (hlen : l.length ≤ 1048576) (hsz : ∀ f ∈ l, f.1.size ≤ 1048576 ∧ f.2.size ≤ 1048576) (hnil : a = none → cap = 0) (s : ShelfL) (n1 : s.man.segs.length ≤ 1048576) (n2 : s.man.conf.length ≤ 1048576) (n3 : s.dir.length ≤ 1048576) (st : Int) (ch : List ChangeL) (hcl : ch.length ≤ 2097152) (hcs : ∀ c ∈ ch, smallChange 2097152 c) (S : ByteArray) (hT : Txt st ch S true) (hS1 : 1 ≤ S.size) (hS2 : S.size ≤ 9000) (hC : Shelves.Clean l s) (hst : s.stamp ≤ st) (hbg : Shelves.begins l s.man = true)
    (D : List FileL) (k : Nat) (hrun : Disks.run l (Shelves.put1 (Shelves.segName s.man.next) (frameB S) :: Shelves.manRaws (sealedS (Shelves.grown s.man))) = (D, k)) (t : ShelfL) (R : Bool) (hI : AfterIs D k 3 t R) (w : World) (hf : FilesAt w a g off l) (hA : ShOwn b s va vc vd w) (hc : ChangeAt w ba bg boff ch) :
    Calls Tryz.prog 14 #[.agg #[.slice a l.length cap], shV s va vc vd, .agg #[.int .i64 st, .slice ba ch.length bc]] w (AddPost w (if R = true then t else Shelves.zeroS) (if R = true then (Shelves.put1 (Shelves.segName s.man.next) (frameB S) :: Shelves.manRaws (sealedS (Shelves.grown s.man))) else []) R) := by
  have hmo := Shelves.man_ok hC
  have hsl : 1 ≤ s.man.segs.length ∧ s.man.segs.length ≤ 8 := hmo.1
  have hnx := hmo.2.1
  obtain ⟨n, hn⟩ : ∃ n, n = Shelves.lastOf s.man := ⟨_, rfl⟩
  have HN : Hid (n = Shelves.lastOf s.man) := hn
  obtain ⟨F, hFr⟩ : ∃ F, F = frameB S := ⟨_, rfl⟩
  have hFs : F.size ≤ 20000 := by
    have h1 := varB_size S.size
    have h2 := four_size (Sums.sumOf S.data.toList)
    rw [hFr]
    unfold frameB
    rw [ByteArray.size_append, ByteArray.size_append]
    omega
  obtain ⟨t2, ht2⟩ : ∃ t2, t2 = Disks.textOf l (Shelves.segName n) := ⟨_, rfl⟩
  have HTX : Hid (Disks.TextIs l (Shelves.segName n) t2) := by show Disks.TextIs _ _ _; rw [ht2]; exact Disks.text_of l _
  have HTA : Hid (Shelves.textAt l n = Batches.by_ t2) := by show _ = _; rw [ht2]; rfl
  have ht20 : t2.size ≤ 20000 := by have := Shelves.text_le hC.disk n; rw [HTA.out, Scan.by_len] at this; exact this
  have hd : 500 ≤ t2.size ∧ s.man.segs.length < 8 ∧ s.man.next ≤ 999 := by
    have := Shelves.begins_iff.1 hbg
    rw [← hn, HTA.out, Scan.by_len] at this
    exact this
  have hgok := Shelves.grown_ok hmo hd.2.1 hd.2.2
  obtain ⟨M, hM⟩ : ∃ M, M = sealedS (Shelves.grown s.man) := ⟨_, rfl⟩
  have hMs : M.size ≤ 20000 := by rw [hM]; exact sealed_small9 hgok
  have HTI : Hid (TextIs ⟨s.man.segs ++ [s.man.next], s.man.next + 1, s.man.base, s.man.term, s.man.conf⟩ M true) := Or.inl ⟨hgok, hM, rfl⟩
  have hsn := seg_small9 s.man.next
  have HAF : Hid (∀ (W' : World) (v : Value), FilesAt W' a g off l → W'.ownsRow w.heap.size 103 4 v 3 (cellsRaw (Shelves.put1 (Shelves.segName s.man.next) F :: Shelves.manRaws M)) → Calls Tryz.prog 65 #[.agg #[.slice a l.length cap], v] W' (AfterPost W' t R)) := fun W' v h1 h2 => by
    obtain ⟨ra, rg, rc, rfl, h3⟩ := cellsRaw_slice (l := (Shelves.put1 (Shelves.segName s.man.next) F :: Shelves.manRaws M)) h2
    exact after9_is l (Shelves.put1 (Shelves.segName s.man.next) F :: Shelves.manRaws M) hC.disk (by simp [Shelves.manRaws]) hnil (by
      intro r hr
      simp only [Shelves.manRaws, List.mem_cons, List.not_mem_nil, or_false] at hr
      rcases hr with rfl | rfl | rfl
      · exact ⟨by show (Shelves.segName s.man.next).size ≤ _; omega, by simp [Shelves.put1, ByteArray.size], by show F.size ≤ _; omega⟩
      · exact ⟨by simp [Shelves.put1, Shelves.nameNew, ByteArray.size], by simp [Shelves.put1, ByteArray.size], by show M.size ≤ _; omega⟩
      · exact ⟨by simp [Shelves.nameNew, ByteArray.size], by simp [Shelves.nameM, ByteArray.size], by simp [ByteArray.size]⟩) D k (by rw [hM, hFr]; exact hrun) t R hI W' h1 h3
  have HFR : Hid (∀ W', Calls Tryz.prog 60 #[.string S] W' fun e w' => e = .returned (.tuple #[.string F, .bool true]) ∧ Below W'.heap.size W' w') := fun W' => by rw [hFr]; exact specFrame_yes S hS1 hS2 W'
  rw [← hM, ← hFr]
  obtain ⟨U, hU⟩ : ∃ U : ShelfL, U = if R = true then t else Shelves.zeroS := ⟨_, rfl⟩
  obtain ⟨V, hV⟩ : ∃ V : List Disks.RawL, V = if R = true then (Shelves.put1 (Shelves.segName s.man.next) F :: Shelves.manRaws M) else [] := ⟨_, rfl⟩
  have HU : Hid (U = if R = true then t else Shelves.zeroS) := hU
  have HV : Hid (V = if R = true then (Shelves.put1 (Shelves.segName s.man.next) F :: Shelves.manRaws M) else []) := hV
  rw [← hU, ← hV]
  clear hn hFr hM hU hV hrun hI hbg ht2 hmo hgok
  obtain ⟨T, hTT⟩ : ∃ T : Bool, T = true := ⟨_, rfl⟩
  obtain ⟨Q, hQQ⟩ : ∃ Q : Bool, Q = true := ⟨_, rfl⟩
  rw [← hTT] at hT
  have hR : Q = true ↔ Shelves.Clean l s := ⟨fun _ => hC, fun _ => hQQ⟩
  obtain ⟨sa, sc, e1⟩ := own_slice hA.segs
  obtain ⟨ca, cc, e2⟩ := own_slice hA.conf
  obtain ⟨da, dc, e3⟩ := own_slice hA.dir
  subst e1 e2 e3
  obtain ⟨W, hW⟩ : ∃ W, W = ((((w.alloc (Obj.cells #[Value.slice a l.length cap] 46)).alloc (Obj.cells #[.slice sa s.man.segs.length sc, .int .i64 s.man.next, .int .i64 s.man.base, .int .i64 s.man.term, .slice ca s.man.conf.length cc, .slice da s.dir.length dc, .int .i64 s.stamp] 40)).alloc (Obj.cells #[.int .i64 st, .slice ba ch.length bc] 51)).alloc (Obj.cells #[.slice none 0 0, .int .i64 0, .int .i64 0, .int .i64 0, .slice none 0 0, .slice none 0 0, .int .i64 0] 40)) := ⟨_, rfl⟩
  have hb : Below w.heap.size w W := by rw [hW]; exact ((((Below.refl _ _).alloc (Nat.le_refl _) _).alloc (by simp) _).alloc (by simp; omega) _).alloc (by simp; omega) _
  have p0 : W.heap[w.heap.size]? = some (.cells #[Value.slice a l.length cap] 46 (0, 0)) := by
    rw [hW, Below.heap_alloc _ _ _ (by simp; omega), Below.heap_alloc _ _ _ (by simp; omega), Below.heap_alloc _ _ _ (by simp)]; exact heap_alloc_new w _
  have p1 : W.heap[w.heap.size + 1]? = some (.cells #[.slice sa s.man.segs.length sc, .int .i64 s.man.next, .int .i64 s.man.base, .int .i64 s.man.term, .slice ca s.man.conf.length cc, .slice da s.dir.length dc, .int .i64 s.stamp] 40 (0, 0)) := by
    rw [hW, Below.heap_alloc _ _ _ (by simp), Below.heap_alloc _ _ _ (by simp)]
    have := heap_alloc_new (w.alloc (Obj.cells #[Value.slice a l.length cap] 46)) (Obj.cells #[.slice sa s.man.segs.length sc, .int .i64 s.man.next, .int .i64 s.man.base, .int .i64 s.man.term, .slice ca s.man.conf.length cc, .slice da s.dir.length dc, .int .i64 s.stamp] 40); simpa using this
  have p2 : W.heap[w.heap.size + 1 + 1]? = some (.cells #[.int .i64 st, .slice ba ch.length bc] 51 (0, 0)) := by
    rw [hW, Below.heap_alloc _ _ _ (by simp)]
    have := heap_alloc_new ((w.alloc (Obj.cells #[Value.slice a l.length cap] 46)).alloc (Obj.cells #[.slice sa s.man.segs.length sc, .int .i64 s.man.next, .int .i64 s.man.base, .int .i64 s.man.term, .slice ca s.man.conf.length cc, .slice da s.dir.length dc, .int .i64 s.stamp] 40)) (Obj.cells #[.int .i64 st, .slice ba ch.length bc] 51); simpa using this
  have p3 : W.heap[w.heap.size + 1 + 1 + 1]? = some (.cells #[.slice none 0 0, .int .i64 0, .int .i64 0, .int .i64 0, .slice none 0 0, .slice none 0 0, .int .i64 0] 40 (0, 0)) := by
    rw [hW]
    have := heap_alloc_new (((w.alloc (Obj.cells #[Value.slice a l.length cap] 46)).alloc (Obj.cells #[.slice sa s.man.segs.length sc, .int .i64 s.man.next, .int .i64 s.man.base, .int .i64 s.man.term, .slice ca s.man.conf.length cc, .slice da s.dir.length dc, .int .i64 s.stamp] 40)).alloc (Obj.cells #[.int .i64 st, .slice ba ch.length bc] 51)) (Obj.cells #[.slice none 0 0, .int .i64 0, .int .i64 0, .int .i64 0, .slice none 0 0, .slice none 0 0, .int .i64 0] 40); simpa using this
  have HB : Hid (Below w.heap.size w W) := hb
  have K : ∀ (q : Nat) (ob : Obj), W.heap[q]? = some ob → ∀ W', Below W.heap.size W W' → W'.heap[q]? = some ob := fun q ob h W' hh => (hh.block _ (Array.getElem?_eq_some_iff.1 h).1).trans h
  have HP0 : Hid (∀ W', Below W.heap.size W W' → W'.heap[w.heap.size]? = some (.cells #[Value.slice a l.length cap] 46 (0, 0))) := K _ _ p0
  have HP1 : Hid (∀ W', Below W.heap.size W W' → W'.heap[w.heap.size + 1]? = some (.cells #[.slice sa s.man.segs.length sc, .int .i64 s.man.next, .int .i64 s.man.base, .int .i64 s.man.term, .slice ca s.man.conf.length cc, .slice da s.dir.length dc, .int .i64 s.stamp] 40 (0, 0))) := K _ _ p1
  have HP2 : Hid (∀ W', Below W.heap.size W W' → W'.heap[w.heap.size + 1 + 1]? = some (.cells #[.int .i64 st, .slice ba ch.length bc] 51 (0, 0))) := K _ _ p2
  have HRQ : Hid (∀ W', Below W.heap.size W W' → W'.heap[w.heap.size + 1 + 1 + 1]? = some (.cells #[.slice none 0 0, .int .i64 0, .int .i64 0, .int .i64 0, .slice none 0 0, .slice none 0 0, .int .i64 0] 40 (0, 0))) := K _ _ p3
  have HT : Hid (Calls Tryz.prog 58 #[.agg #[.int .i64 st, .slice ba ch.length bc]] W fun e w' => e = .returned (.tuple #[.string S, .bool T]) ∧ Below W.heap.size W w') := specText_any hT hcl W (hc.kept hb) hcs
  have HC : Hid (∀ W', Below W.heap.size W W' → Calls Tryz.prog 59 #[.agg #[.slice a l.length cap], shV s (.slice sa s.man.segs.length sc) (.slice ca s.man.conf.length cc) (.slice da s.dir.length dc)] W' fun e w' => e = .returned (.bool Q) ∧ Below W'.heap.size W' w') := fun W' h => clean9_is l hlen hsz s n1 n2 n3 Q hR W' ((hf.kept hb).kept h) ((hA.kept hb).kept h)
  have HF0 : Hid (∀ W', Below w.heap.size w W' → FilesAt W' a g off l) := fun W' h => hf.kept h
  have HFW : Hid (∀ W', Below W.heap.size W W' → FilesAt W' a g off l) := fun W' h => (hf.kept hb).kept h
  have HCP : Hid (∀ W', Below W.heap.size W W' → Calls Tryz.prog 61 #[manV ⟨s.man.segs, s.man.next, s.man.base, s.man.term, s.man.conf⟩ sa sc ca cc] W' fun e w' => ∃ v1 v2, e = .returned (.agg #[v1, .int .i64 s.man.next, .int .i64 s.man.base, .int .i64 s.man.term, v2]) ∧ w'.ownsRow W'.heap.size 3 1 v1 s.man.segs.length (cellsI s.man.segs) ∧ w'.ownsRow W'.heap.size 3 1 v2 s.man.conf.length (cellsI s.man.conf) ∧ Apart v1 v2 ∧ Below W'.heap.size W' w') := fun W' h => by
    have h2 := (hA.kept hb).kept h
    obtain ⟨_, g1, _, e1, i1⟩ := cellsI_slice h2.segs
    cases e1
    obtain ⟨_, g2, _, e2, i2⟩ := cellsI_slice h2.conf
    cases e2
    exact copyMan9_is s.man.segs s.man.conf s.man.next s.man.base s.man.term n1 n2 (own_nil h2.segs) (own_nil h2.conf) W' i1 i2
  unfold manV at HCP
  unfold shV cells7 at HC ⊢
  have c0 := cell_of_row _ _ 0 _ _ _ p2
  have c1 := cell_of_row _ _ 1 _ _ _ p2
  simp at c0 c1
  rw [hW] at c0 c1
  clear hT hR hC hA hf hc hb p0 p1 p2 p3 K hsz hcs hcl
  go_enter Tryz.func14, Tryz.ntmps14
  go_wp2_with fail
  rw [← hW]
  clear hW c0 c1
  refine Calls.mono HT.out ?_
  rintro e w1 ⟨rfl, hb1⟩
  have HB1 : Hid (Below W.heap.size W w1) := hb1
  clear hb1 HT
  subst hTT hQQ
  have k0 := cell_of_row _ _ 0 _ _ _ (HP0.out _ HB1.out)
  obtain ⟨⟨e0, e1, e2, e3, e4, e5, e6⟩, _⟩ := seven_cells (HP1.out _ HB1.out)
  simp at k0
  go_wp2_with fail
  clear k0 e0 e1 e2 e3 e4 e5 e6
  refine Calls.mono (HC.out _ HB1.out) ?_
  rintro e w2 ⟨rfl, hb2⟩
  have HB2 : Hid (Below W.heap.size W w2) := HB1.out.trans (hb2.mono HB1.out.size)
  clear hb2
  have e6 := cell_of_row _ _ 6 _ _ _ (HP1.out _ HB2.out)
  have m0 := cell_of_row _ _ 0 _ _ _ (HP2.out _ HB2.out)
  simp at e6 m0
  have hst' : ¬ st < s.stamp := by omega
  go_wp2_with fail
  clear e6 m0
  refine Calls.mono (HFR.out _) ?_
  rintro e w3 ⟨rfl, hb3⟩
  have HB3 : Hid (Below W.heap.size W w3) := HB2.out.trans (hb3.mono HB2.out.size)
  clear hb3
  obtain ⟨⟨e0, e1, e2, e3, e4, e5, e6⟩, _⟩ := seven_cells (HP1.out _ HB3.out)
  go_wp2_with fail
  clear e0 e1 e2 e3 e4 e5 e6
  refine Calls.mono (HCP.out _ HB3.out) ?_
  rintro e w4 ⟨v1, v2, rfl, o1, o2, hap, hb4⟩
  obtain ⟨ma, mc, hv1⟩ := own_slice o1
  subst hv1
  obtain ⟨mb, md, hv2⟩ := own_slice o2
  subst hv2
  obtain ⟨W5, hW5⟩ : ∃ W5, W5 = w4.alloc (Obj.cells #[.slice ma s.man.segs.length mc, .int .i64 s.man.next, .int .i64 s.man.base, .int .i64 s.man.term, .slice mb s.man.conf.length md] 37) := ⟨_, rfl⟩
  have hb5 : Below w4.heap.size w4 W5 := by rw [hW5]; exact (Below.refl _ _).alloc (Nat.le_refl _) _
  have hB4 := HB3.out.trans (hb4.mono HB3.out.size)
  have HB5 : Hid (Below W.heap.size W W5) := hB4.trans (hb5.mono hB4.size)
  have q5 : W5.heap[w4.heap.size]? = some (.cells #[.slice ma s.man.segs.length mc, .int .i64 s.man.next, .int .i64 s.man.base, .int .i64 s.man.term, .slice mb s.man.conf.length md] 37 (0, 0)) := by rw [hW5]; exact heap_alloc_new w4 _
  obtain ⟨_, sg, _, eS, hAt⟩ := cellsI_slice (own_kept o1 hb5)
  cases eS
  have ea := hAt.1 (by omega)
  subst ea
  have c3 := hAt.2 (s.man.segs.length - 1) (by omega)
  rw [Shelves.last_at (by omega) (by omega), Nat.zero_add, ← HN.out] at c3
  have hz3 : w.heap.size ≤ w3.heap.size := Nat.le_trans HB.out.size HB3.out.size
  have HO1 : Hid (∀ W', Below W5.heap.size W5 W' → W'.ownsRow w.heap.size 3 1 (.slice (some ⟨sg, 0, none⟩) s.man.segs.length mc) s.man.segs.length (cellsI s.man.segs)) := fun W' h => own_kept (own_mono (own_kept o1 hb5) hz3) h
  have HO2 : Hid (∀ W', Below W5.heap.size W5 W' → W'.ownsRow w.heap.size 3 1 (.slice mb s.man.conf.length md) s.man.conf.length (cellsI s.man.conf)) := fun W' h => own_kept (own_mono (own_kept o2 hb5) hz3) h
  have HAP : Hid (Apart (.slice (some ⟨sg, 0, none⟩) s.man.segs.length mc) (.slice mb s.man.conf.length md)) := hap
  have HLT : Hid (w.heap.size + 1 + 1 + 1 < w4.heap.size) := (Array.getElem?_eq_some_iff.1 (HRQ.out _ hB4)).1
  have HQ5 : Hid (∀ W', Below W5.heap.size W5 W' → W'.heap[w4.heap.size]? = some (.cells (#[.slice (some ⟨sg, 0, none⟩) s.man.segs.length mc, .int .i64 s.man.next, .int .i64 s.man.base, .int .i64 s.man.term, .slice mb s.man.conf.length md]) 37 (0, 0))) := fun W' h => (h.block _ (Array.getElem?_eq_some_iff.1 q5).1).trans q5
  have k0 := cell_of_row _ _ 0 _ _ _ q5
  simp at k0
  clear o1 o2 hb4 hb5 hB4 q5 hAt hap hz3
  rw [hW5] at c3 k0
  go_wp2_with fail
  rw [← hW5]
  have HW5 : Hid (Below w.heap.size w W5) := HB.out.trans (HB5.out.mono HB.out.size)
  clear hW5 c3 k0
  refine Calls.mono (specSeg_any n W5) ?_
  rintro e w6 ⟨rfl, hb6⟩
  obtain ⟨W7, hW7⟩ : ∃ W7, W7 = w6.alloc (Obj.cells #[.int .i64 2, .string (Shelves.segName n), .string ⟨#[]⟩, .string F] 103) := ⟨_, rfl⟩
  have hb7 : Below w6.heap.size w6 W7 := by rw [hW7]; exact (Below.refl _ _).alloc (Nat.le_refl _) _
  have hb57 : Below W5.heap.size W5 W7 := hb6.trans (hb7.mono hb6.size)
  have HB57 : Hid (Below W5.heap.size W5 W7) := hb57
  have HB7 : Hid (Below W.heap.size W W7) := HB5.out.trans (hb57.mono HB5.out.size)
  have HW7 : Hid (Below w.heap.size w W7) := HB.out.trans (HB7.out.mono HB.out.size)
  have ho7 := World.ownsRow_lit (base := w.heap.size) (e := 103) (size := 4) w6 #[.int .i64 2, .string (Shelves.segName n), .string ⟨#[]⟩, .string F] 1 (Nat.le_trans HW5.out.size hb6.size) (by decide) rfl
  have hr7 := rawsAt_new w6 ⟨2, Shelves.segName n, ⟨#[]⟩, F⟩
  have HO7 : Hid (∀ W', Below W7.heap.size W7 W' → W'.ownsRow w.heap.size 103 4 (.slice (some ⟨w6.heap.size, 0, none⟩) 1 1) 1 (cellsRaw [⟨2, Shelves.segName n, ⟨#[]⟩, F⟩])) := fun W' h => own_kept (by rw [hW7]; exact ho7) h
  have HR7 : Hid (∀ W', Below W7.heap.size W7 W' → RawsAt W' (some ⟨w6.heap.size, 0, none⟩) w6.heap.size 0 [⟨2, Shelves.segName n, ⟨#[]⟩, F⟩]) := fun W' h => RawsAt.kept (by rw [hW7]; exact hr7) h
  have k0 := cell_of_row _ _ 0 _ _ _ (HP0.out _ HB7.out)
  simp at k0
  clear hb6 hb7 hb57 ho7 hr7
  rw [hW7] at k0
  go_wp2_with fail
  rw [← hW7]
  clear k0
  refine Calls.mono (l03Text_is l hlen _ t2 HTX.out W7 (HFW.out _ HB7.out)) ?_
  rintro e w8 ⟨rfl, hb8⟩
  have HB78 : Hid (Below W7.heap.size W7 w8) := hb8
  have HB8 : Hid (Below W.heap.size W w8) := HB7.out.trans (hb8.mono HB7.out.size)
  have HW8 : Hid (Below w.heap.size w w8) := HB.out.trans (HB8.out.mono HB.out.size)
  have hb58 : Below W5.heap.size W5 w8 := HB57.out.trans (hb8.mono HB57.out.size)
  have A8 : A9 w (.slice a l.length cap) w4.heap.size #[.slice (some ⟨sg, 0, none⟩) s.man.segs.length mc, .int .i64 s.man.next, .int .i64 s.man.base, .int .i64 s.man.term, .slice mb s.man.conf.length md] w8 := ⟨HP0.out _ HB8.out, HRQ.out _ HB8.out, HQ5.out _ hb58, HLT.out, HW8.out⟩
  have O8 := HO1.out _ hb58
  have P8 := HO2.out _ hb58
  have HA8 : Hid (A9 w (.slice a l.length cap) w4.heap.size #[.slice (some ⟨sg, 0, none⟩) s.man.segs.length mc, .int .i64 s.man.next, .int .i64 s.man.base, .int .i64 s.man.term, .slice mb s.man.conf.length md] w8) := A8
  have HO8 : Hid (w8.ownsRow w.heap.size 3 1 (.slice (some ⟨sg, 0, none⟩) s.man.segs.length mc) s.man.segs.length (cellsI s.man.segs)) := O8
  have HP8 : Hid (w8.ownsRow w.heap.size 3 1 (.slice mb s.man.conf.length md) s.man.conf.length (cellsI s.man.conf)) := P8
  have k0 := cell_of_row _ _ 0 _ _ _ A8.p0
  have g0 := cell_of_row _ _ 0 _ _ _ A8.man
  have g1 := cell_of_row _ _ 1 _ _ _ A8.man
  simp at k0 g0 g1
  obtain ⟨q1, q2, q3⟩ := hd
  have r1 : (500 : Int) ≤ (t2.size : Int) := by omega
  have r2 : (s.man.segs.length : Int) < 8 := by omega
  clear hb8 hW7 hb58 A8 O8 P8 HP0 HP1 HP2 HRQ HQ5 HO1 HO2 HLT HB57 HB78 HR7 HO7 HTX HTA HFR HCP HC
  go_wp2_with fail
  clear k0 g0 g1 r1 r2 q1
  refine Calls.mono (specSeg_any s.man.next w8) ?_
  rintro e w9 ⟨rfl, hb9⟩
  have C9 := HA8.out.same hb9
  have O9 := own_kept HO8.out hb9
  have P9 := own_kept HP8.out hb9
  obtain ⟨WA, hWA⟩ : ∃ WA, WA = w9.alloc (Obj.cells #[.int .i64 1, .string (Shelves.segName s.man.next), .string ⟨#[]⟩, .string F] 103) := ⟨_, rfl⟩
  have hbA : Below w9.heap.size w9 WA := by rw [hWA]; exact (Below.refl _ _).alloc (Nat.le_refl _) _
  have zA : WA.heap.size = w9.heap.size + 1 := by rw [hWA]; simp
  have CA := C9.same hbA
  have OA := own_kept O9 hbA
  have PA := own_kept P9 hbA
  have LA : WA.ownsRow w.heap.size 103 4 (.slice (some ⟨w9.heap.size, 0, none⟩) 1 1) 1 (cellsRaw [Shelves.put1 (Shelves.segName s.man.next) F]) := by rw [hWA]; exact World.ownsRow_lit (base := w.heap.size) (e := 103) (size := 4) w9 #[.int .i64 1, .string (Shelves.segName s.man.next), .string ⟨#[]⟩, .string F] 1 C9.bel.size (by decide) rfl
  obtain ⟨WB, hWB⟩ : ∃ WB, WB = WA.alloc (Obj.cells #[.int .i64 s.man.next] 3) := ⟨_, rfl⟩
  have hbB : Below WA.heap.size WA WB := by rw [hWB]; exact (Below.refl _ _).alloc (Nat.le_refl _) _
  have CB := CA.same hbB
  have OB := own_kept OA hbB
  have PB := own_kept PA hbB
  have LB := own_kept LA hbB
  have NB : IntAt WB (some ⟨w9.heap.size + 1, 0, none⟩) (w9.heap.size + 1) 0 [s.man.next] := by
    have q : WB.heap[w9.heap.size + 1]? = some (.cells #[.int .i64 s.man.next] 3 (0, 0)) := by rw [hWB, ← zA]; exact heap_alloc_new WA _
    refine ⟨fun _ => rfl, fun j hj => ?_⟩
    have hj0 : j = 0 := by simp at hj; omega
    subst hj0
    have := cell_of_row _ _ 0 _ _ _ q
    simpa using this
  have HCB : Hid (A9 w (.slice a l.length cap) w4.heap.size #[.slice (some ⟨sg, 0, none⟩) s.man.segs.length mc, .int .i64 s.man.next, .int .i64 s.man.base, .int .i64 s.man.term, .slice mb s.man.conf.length md] WB) := CB
  have HOB : Hid (WB.ownsRow w.heap.size 3 1 (.slice (some ⟨sg, 0, none⟩) s.man.segs.length mc) s.man.segs.length (cellsI s.man.segs)) := OB
  have HPB : Hid (WB.ownsRow w.heap.size 3 1 (.slice mb s.man.conf.length md) s.man.conf.length (cellsI s.man.conf)) := PB
  have HLB : Hid (WB.ownsRow w.heap.size 103 4 (.slice (some ⟨w9.heap.size, 0, none⟩) 1 1) 1 (cellsRaw [Shelves.put1 (Shelves.segName s.man.next) F])) := LB
  have k0 := cell_of_row _ _ 0 _ _ _ CA.man
  have k1 := cell_of_row _ _ 1 _ _ _ CA.man
  simp at k0 k1
  have hbz := CB.bel.size
  clear hb9 hbA hbB C9 O9 P9 CA OA PA LA CB PB LB zA HA8 HO8 HP8
  rw [hWB, hWA] at OB NB hbz
  rw [hWA] at k0 k1
  go_wp2_with (at_builtin; refine wpList_appendI rfl _ _ rfl w.heap.size _ _ _ rfl OB (some ⟨w9.heap.size + 1, 0, none⟩) (w9.heap.size + 1) 0 1 [s.man.next] rfl NB (by intro h; cases h) (by simp; omega) hbz ?_)
  rw [← hWA, ← hWB]
  intro v' wC hoC hgC
  obtain ⟨N, hN⟩ : ∃ N, N = s.man.segs.length + 1 := ⟨_, rfl⟩
  have oC : wC.ownsRow w.heap.size 3 1 v' N (cellsI (s.man.segs ++ [s.man.next])) := by rw [hN]; simpa [cellsI] using hoC
  obtain ⟨na, nc, hv'⟩ := own_slice oC
  subst hv'
  have CC := HCB.out.grow HOB.out (by decide) (by decide) (by decide) hgC
  have LC := own_apart_kept HLB.out HOB.out (by decide) hgC
  have PC := apart_kept HPB.out HAP.out hgC
  obtain ⟨WD, hWD⟩ : ∃ WD, WD = wC.setCell ⟨w4.heap.size, 0, none⟩ (.slice na N nc) := ⟨_, rfl⟩
  have CD : A9 w (.slice a l.length cap) w4.heap.size #[.slice na N nc, .int .i64 s.man.next, .int .i64 s.man.base, .int .i64 s.man.term, .slice mb s.man.conf.length md] WD := by rw [hWD]; simpa using CC.set 0 (.slice na N nc)
  have oD : WD.ownsRow w.heap.size 3 1 (.slice na N nc) N (cellsI (s.man.segs ++ [s.man.next])) := by rw [hWD]; exact own_set oC _ _ _ (own_not oC CC.man (by decide))
  have PD : WD.ownsRow w.heap.size 3 1 (.slice mb s.man.conf.length md) s.man.conf.length (cellsI s.man.conf) := by rw [hWD]; exact own_set PC _ _ _ (own_not PC CC.man (by decide))
  have LD : WD.ownsRow w.heap.size 103 4 (.slice (some ⟨w9.heap.size, 0, none⟩) 1 1) 1 (cellsRaw [Shelves.put1 (Shelves.segName s.man.next) F]) := by rw [hWD]; exact own_set LC _ _ _ (own_not LC CC.man (by decide))
  obtain ⟨WE, hWE⟩ : ∃ WE, WE = WD.setCell ⟨w4.heap.size, 1, none⟩ (.int .i64 (s.man.next + 1)) := ⟨_, rfl⟩
  have CE : A9 w (.slice a l.length cap) w4.heap.size #[.slice na N nc, .int .i64 (s.man.next + 1), .int .i64 s.man.base, .int .i64 s.man.term, .slice mb s.man.conf.length md] WE := by rw [hWE]; simpa using CD.set 1 (.int .i64 (s.man.next + 1))
  have oE : WE.ownsRow w.heap.size 3 1 (.slice na N nc) N (cellsI (s.man.segs ++ [s.man.next])) := by rw [hWE]; exact own_set oD _ _ _ (own_not oD CD.man (by decide))
  have PE : WE.ownsRow w.heap.size 3 1 (.slice mb s.man.conf.length md) s.man.conf.length (cellsI s.man.conf) := by rw [hWE]; exact own_set PD _ _ _ (own_not PD CD.man (by decide))
  have LE : WE.ownsRow w.heap.size 103 4 (.slice (some ⟨w9.heap.size, 0, none⟩) 1 1) 1 (cellsRaw [Shelves.put1 (Shelves.segName s.man.next) F]) := by rw [hWE]; exact own_set LD _ _ _ (own_not LD CD.man (by decide))
  have HNM : Hid (Calls Tryz.prog 64 #[.agg #[.slice na N nc, .int .i64 (s.man.next + 1), .int .i64 s.man.base, .int .i64 s.man.term, .slice mb s.man.conf.length md]] WE fun e w' => ∃ v, e = .returned (.tuple #[v, .bool true]) ∧ w'.ownsRow WE.heap.size 103 4 v 2 (cellsRaw (Shelves.manRaws M)) ∧ Below WE.heap.size WE w') := by
    have hlN : (s.man.segs ++ [s.man.next]).length = N := by simp [hN]
    obtain ⟨_, g1, _, e1, i1⟩ := cellsI_slice (l := s.man.segs ++ [s.man.next]) (by rw [hlN]; exact oE)
    cases e1
    obtain ⟨_, g2, _, e2, i2⟩ := cellsI_slice PE
    cases e2
    have := newMan9_is (ca := nc) (cb := md) (s.man.segs ++ [s.man.next]) s.man.conf (s.man.next + 1) s.man.base s.man.term (by rw [hlN]; omega) n2 M true HTI.out WE i1 i2
    unfold manV at this
    rw [hlN] at this
    exact this
  have HCE : Hid (A9 w (.slice a l.length cap) w4.heap.size #[.slice na N nc, .int .i64 (s.man.next + 1), .int .i64 s.man.base, .int .i64 s.man.term, .slice mb s.man.conf.length md] WE) := CE
  have HLE : Hid (WE.ownsRow w.heap.size 103 4 (.slice (some ⟨w9.heap.size, 0, none⟩) 1 1) 1 (cellsRaw [Shelves.put1 (Shelves.segName s.man.next) F])) := LE
  have c0 := cell_of_row _ _ 0 _ _ _ CC.man
  have f0 := frozen_of_row _ _ 0 _ _ CC.man
  have d1 := cell_of_row _ _ 1 _ _ _ CD.man
  have f1 := frozen_of_row _ _ 1 _ _ CD.man
  have b0 := cell_of_row _ _ 0 _ _ _ CE.man
  have b1 := cell_of_row _ _ 1 _ _ _ CE.man
  have b2 := cell_of_row _ _ 2 _ _ _ CE.man
  have b3 := cell_of_row _ _ 3 _ _ _ CE.man
  have b4 := cell_of_row _ _ 4 _ _ _ CE.man
  simp at c0 d1 b0 b1 b2 b3 b4
  clear hoC oC hgC CC LC PC CD oD PD LD CE oE PE LE HCB HOB HPB HLB OB NB hbz k0 k1 hN hWA hWB HTI
  rw [hWE, hWD] at b0 b1 b2 b3 b4
  rw [hWD] at d1 f1
  go_wp2_with fail
  rw [← hWD, ← hWE]
  clear hWD hWE c0 f0 d1 f1 b0 b1 b2 b3 b4
  refine Calls.mono HNM.out ?_
  rintro e wF ⟨v, rfl, hvF, hbF⟩
  have CF := HCE.out.same hbF
  have LF := own_kept HLE.out hbF
  obtain ⟨ra, rg, rc, hv, iF⟩ := cellsRaw_slice (l := Shelves.manRaws M) hvF
  subst hv
  have nF := own_nil hvF
  have HCF : Hid (A9 w (.slice a l.length cap) w4.heap.size #[.slice na N nc, .int .i64 (s.man.next + 1), .int .i64 s.man.base, .int .i64 s.man.term, .slice mb s.man.conf.length md] wF) := CF
  have HLF : Hid (wF.ownsRow w.heap.size 103 4 (.slice (some ⟨w9.heap.size, 0, none⟩) 1 1) 1 (cellsRaw [Shelves.put1 (Shelves.segName s.man.next) F])) := LF
  have hbz := CF.bel.size
  clear hvF hbF CF HCE HLE HNM
  go_wp2_with (at_builtin; refine wpList_appendRaw rfl _ _ rfl w.heap.size _ _ _ rfl LF ra rg 0 rc (Shelves.manRaws M) rfl iF nF (by simp [Shelves.manRaws]) hbz ?_)
  intro v' wG hoG hgG
  have oG : wG.ownsRow w.heap.size 103 4 v' 3 (cellsRaw (Shelves.put1 (Shelves.segName s.man.next) F :: Shelves.manRaws M)) := by simpa [cellsRaw, Shelves.manRaws] using hoG
  have CG := HCF.out.grow HLF.out (by decide) (by decide) (by decide) hgG
  obtain ⟨ya, yc, hv⟩ := own_slice oG
  subst hv
  have HOG : Hid (wG.ownsRow w.heap.size 103 4 (.slice ya 3 yc) 3 (cellsRaw (Shelves.put1 (Shelves.segName s.man.next) F :: Shelves.manRaws M))) := oG
  have HCG : Hid (A9 w (.slice a l.length cap) w4.heap.size #[.slice na N nc, .int .i64 (s.man.next + 1), .int .i64 s.man.base, .int .i64 s.man.term, .slice mb s.man.conf.length md] wG) := CG
  have k0 := cell_of_row _ _ 0 _ _ _ CG.p0
  simp at k0
  have HD : Hid (Calls Tryz.prog 65 #[.agg #[.slice a l.length cap], .slice ya 3 yc] wG (AfterPost wG t R)) := HAF.out _ _ (HF0.out _ CG.bel) oG
  clear hoG hgG CG oG HCF HLF LF iF nF hbz
  go_wp2_with fail
  clear k0
  refine Calls.mono HD.out ?_
  rintro e w9 ⟨va, vc, vd, rfl, hsh, hb9⟩
  unfold shV cells7
  obtain ⟨xa, xb, hva⟩ := own_slice hsh.segs
  subst hva
  obtain ⟨xc, xd, hvc⟩ := own_slice hsh.conf
  subst hvc
  obtain ⟨xe, xf, hvd⟩ := own_slice hsh.dir
  subst hvd
  obtain ⟨WA, hWA⟩ : ∃ WA, WA = w9.alloc (Obj.cells #[.slice xa t.man.segs.length xb, .int .i64 t.man.next, .int .i64 t.man.base, .int .i64 t.man.term, .slice xc t.man.conf.length xd, .slice xe t.dir.length xf, .int .i64 t.stamp] 40) := ⟨_, rfl⟩
  have hbA : Below w9.heap.size w9 WA := by rw [hWA]; exact (Below.refl _ _).alloc (Nat.le_refl _) _
  have hb8A : Below wG.heap.size wG WA := hb9.trans (hbA.mono hb9.size)
  have CA := HCG.out.same hb8A
  have HWA : Hid (Below w.heap.size w WA) := CA.bel
  have HSH : Hid (ShOwn w.heap.size t (.slice xa t.man.segs.length xb) (.slice xc t.man.conf.length xd) (.slice xe t.dir.length xf) WA) := (hsh.mono HCG.out.bel.size).kept hbA
  have HRA : Hid (WA.ownsRow w.heap.size 103 4 (.slice ya 3 yc) 3 (cellsRaw (Shelves.put1 (Shelves.segName s.man.next) F :: Shelves.manRaws M))) := own_kept HOG.out hb8A
  have hqA : WA.heap[w9.heap.size]? = some (.cells #[.slice xa t.man.segs.length xb, .int .i64 t.man.next, .int .i64 t.man.base, .int .i64 t.man.term, .slice xc t.man.conf.length xd, .slice xe t.dir.length xf, .int .i64 t.stamp] 40 (0, 0)) := by rw [hWA]; exact heap_alloc_new w9 _
  have rQ := CA.p3
  have HQA : Hid (WA.heap[w.heap.size + 1 + 1 + 1]? = some (.cells #[.slice none 0 0, .int .i64 0, .int .i64 0, .int .i64 0, .slice none 0 0, .slice none 0 0, .int .i64 0] 40 (0, 0))) := rQ
  obtain ⟨⟨e0, e1, e2, e3, e4, e5, e6⟩, _⟩ := seven_cells hqA
  have HL : Hid (w.heap.size + 1 + 1 + 1 < w9.heap.size) := by
    show _ < _
    have h1 := (Array.getElem?_eq_some_iff.1 HCG.out.p3).1
    have h2 := hb9.size
    omega
  have hn2 : w9.heap.size ≠ w.heap.size + 1 + 1 + 1 := by have := HL.out; omega
  have hn2' : w.heap.size + 1 + 1 + 1 ≠ w9.heap.size := by have := HL.out; omega
  clear hsh hb9 hbA hb8A hqA CA
  cases R with
  | true =>
    have HY := res7 HQA.out (.slice xa t.man.segs.length xb) (.int .i64 t.man.next) (.int .i64 t.man.base) (.int .i64 t.man.term) (.slice xc t.man.conf.length xd) (.slice xe t.dir.length xf) (.int .i64 t.stamp)
    have HFin : Hid (AddPost w U V true (.returned (.tuple #[.agg #[.slice xa t.man.segs.length xb, .int .i64 t.man.next, .int .i64 t.man.base, .int .i64 t.man.term, .slice xc t.man.conf.length xd, .slice xe t.dir.length xf, .int .i64 t.stamp], .slice ya 3 yc, .bool true])) (set7 WA (w.heap.size + 1 + 1 + 1) (.slice xa t.man.segs.length xb) (.int .i64 t.man.next) (.int .i64 t.man.base) (.int .i64 t.man.term) (.slice xc t.man.conf.length xd) (.slice xe t.dir.length xf) (.int .i64 t.stamp))) := by
      show AddPost _ _ _ _ _ _
      rw [HU.out, HV.out]
      exact ⟨_, _, _, _, rfl, set7_sh HSH.out HQA.out (by decide) (by decide) _ _ _ _ _ _ _, set7_own HRA.out HQA.out (by decide) _ _ _ _ _ _ _, set7_below HWA.out (by omega) _ _ _ _ _ _ _⟩
    obtain ⟨⟨z0, z1, z2, z3, z4, z5, z6⟩, y0, y1, y2, y3, y4, y5, y6⟩ := seven_cells rQ
    clear rQ
    rw [hWA] at e0 e1 e2 e3 e4 e5 e6 z0 z1 z2 z3 z4 z5 z6 y0 y1 y2 y3 y4 y5 y6
    go_wp2
    rw [← hWA]
    obtain ⟨u0, u1, u2, u3, u4, u5, u6⟩ := HY
    unfold set7 at u0 u1 u2 u3 u4 u5 u6
    exact bodyPost_ret (v := .tuple #[.agg #[.slice xa t.man.segs.length xb, .int .i64 t.man.next, .int .i64 t.man.base, .int .i64 t.man.term, .slice xc t.man.conf.length xd, .slice xe t.dir.length xf, .int .i64 t.stamp], .slice ya 3 yc, .bool true]) (by simp [results, Tryz.results14, go_sem, u0, u1, u2, u3, u4, u5, u6]) rfl HFin.out
  | false =>
    have HQ : Hid ((WA.alloc (Obj.cells #[] 103)).heap[w.heap.size + 1 + 1 + 1]? = some (.cells #[.slice none 0 0, .int .i64 0, .int .i64 0, .int .i64 0, .slice none 0 0, .slice none 0 0, .int .i64 0] 40 (0, 0))) := (((Below.refl _ _).alloc (Nat.le_refl _) _ : Below WA.heap.size WA (WA.alloc (Obj.cells #[] 103))).block _ (Array.getElem?_eq_some_iff.1 rQ).1).trans rQ
    have hbE : Below WA.heap.size WA (WA.alloc (Obj.cells #[] 103)) := (Below.refl _ _).alloc (Nat.le_refl _) _
    have HY := res7 HQ.out (.slice none 0 0) (.int .i64 0) (.int .i64 0) (.int .i64 0) (.slice none 0 0) (.slice none 0 0) (.int .i64 0)
    have hown := World.ownsRow_made (base := w.heap.size) (e := 103) (size := 4) WA #[] 0 HWA.out.size (by decide) rfl
    have HFin : Hid (AddPost w U V false (.returned (.tuple #[.agg #[.slice none 0 0, .int .i64 0, .int .i64 0, .int .i64 0, .slice none 0 0, .slice none 0 0, .int .i64 0], .slice (some ⟨WA.heap.size, 0, none⟩) 0 0, .bool false])) (set7 (WA.alloc (Obj.cells #[] 103)) (w.heap.size + 1 + 1 + 1) (.slice none 0 0) (.int .i64 0) (.int .i64 0) (.int .i64 0) (.slice none 0 0) (.slice none 0 0) (.int .i64 0))) := by
      show AddPost _ _ _ _ _ _
      rw [HU.out, HV.out]
      exact ⟨.slice none 0 0, .slice none 0 0, .slice none 0 0, _, rfl, ShOwn.zero _ _, set7_own hown HQ.out (by decide) _ _ _ _ _ _ _, set7_below (HWA.out.trans (hbE.mono HWA.out.size)) (by omega) _ _ _ _ _ _ _⟩
    obtain ⟨⟨z0, z1, z2, z3, z4, z5, z6⟩, y0, y1, y2, y3, y4, y5, y6⟩ := seven_cells HQ.out
    clear rQ hbE hown e0 e1 e2 e3 e4 e5 e6
    have hzA : WA.heap.size = w9.heap.size + 1 := by rw [hWA]; simp
    rw [hzA] at HFin
    rw [hWA] at z0 z1 z2 z3 z4 z5 z6 y0 y1 y2 y3 y4 y5 y6
    go_wp2
    rw [← hWA]
    obtain ⟨u0, u1, u2, u3, u4, u5, u6⟩ := HY
    unfold set7 at u0 u1 u2 u3 u4 u5 u6
    exact bodyPost_ret (v := .tuple #[.agg #[.slice none 0 0, .int .i64 0, .int .i64 0, .int .i64 0, .slice none 0 0, .slice none 0 0, .int .i64 0], .slice (some ⟨w9.heap.size + 1, 0, none⟩) 0 0, .bool false]) (by simp [results, Tryz.results14, go_sem, u0, u1, u2, u3, u4, u5, u6]) rfl HFin.out
end Go.Proofs.YtbcfiiilikkkeaaGreatDoor
