/- The program's AddBatch at every argument, walked. errors.As at the program's own error type, walked in Go's own text. The exact law of OpenShelf, walked. Made by program. Batches as the laws copy, measure and compare them: szBatch, toBatch, eqBatch, walked. -/
import Derived.Test.YtbcfiiilikkkeaaGreatDoorEqSpots
import Derived.Test.YtbcfiiilikkkeaaGreatDoorImplBT
import Derived.Test.YtbcfiiilikkkeaaGreatDoorLChange
import Derived.LaidEql
import Derived.Stop.Asserts
import Derived.RowKitTokens
import Derived.Test.YtbcfiiilikkkeaaGreatDoorMarkChange
import Derived.Test.YtbcfiiilikkkeaaGreatDoorImplOn
import Derived.Test.YtbcfiiilikkkeaaGreatDoorMathComes2
import Derived.Test.YtbcfiiilikkkeaaGreatDoorKeep
import Derived.Test.YtbcfiiilikkkeaaGreatDoorPutRaw
namespace Go.Proofs.YtbcfiiilikkkeaaGreatDoor
open Go.RowKit
open Shelves (OpenIs AddIs)
set_option linter.unusedVariables false
set_option linter.unusedSimpArgs false

def AddPostI (w : World) (s : ShelfL) (rs : List Disks.RawL) (R : Bool) (en : Ending) (w' : World) : Prop :=
  ∃ va vc vd rv, en = .returned (.tuple #[shV s va vc vd, rv, .bool R]) ∧ ShOwn w.heap.size s va vc vd w' ∧ Apart va vc ∧ w'.ownsRow w.heap.size 103 4 rv rs.length (cellsRaw rs) ∧ Below w.heap.size w w'
/-- What shelfBehind tells behind the raw writes of a batch is what l09After tells. -/
theorem behind_is {l : List FileL} {s : ShelfL} {st : Int} {ch : List ChangeL} (ho : Batches.ok st ch) (hC : Shelves.Clean l s) : ∃ t R, BehindIs (Disks.run l (Shelves.addRaws l s.man (Shelves.frameOf st.toNat ch))).1 (Disks.run l (Shelves.addRaws l s.man (Shelves.frameOf st.toNat ch))).2 (Shelves.addRaws l s.man (Shelves.frameOf st.toNat ch)).length t R ∧ ((R = true ∧ Shelves.after l (Shelves.addRaws l s.man (Shelves.frameOf st.toNat ch)) = some t) ∨ (R = false ∧ Shelves.after l (Shelves.addRaws l s.man (Shelves.frameOf st.toNat ch)) = none)) := by
  have h0 : ((st.toNat : Nat) : Int) = st := by have := ho.1; omega
  have ho' : Batches.ok ((st.toNat : Nat) : Int) ch := by rw [h0]; exact ho
  by_cases hd : (Disks.run l (Shelves.addRaws l s.man (Shelves.frameOf st.toNat ch))).2 = (Shelves.addRaws l s.man (Shelves.frameOf st.toNat ch)).length
  · obtain ⟨t, more, c, hO⟩ := Shelves.open_ex (Disks.run l (Shelves.addRaws l s.man (Shelves.frameOf st.toNat ch))).1
    by_cases hc : c = 0
    · have hm : more = [] := by
        rcases hO with ⟨h1, _⟩ | ⟨_, h1, _⟩
        · exact Shelves.add_opens hC ho' hd h1
        · exact absurd hc h1
      refine ⟨t, true, Or.inl ⟨hd, more, c, hO, by simp [hc]⟩, Or.inl ⟨rfl, ?_⟩⟩
      exact Shelves.after_clean hd ((Shelves.open_clean hO).2 ⟨hc, hm, rfl⟩)
    · refine ⟨t, false, Or.inl ⟨hd, more, c, hO, by simp only [Bool.false_eq_true, false_iff]; exact hc⟩, Or.inr ⟨rfl, ?_⟩⟩
      cases ha : Shelves.after l (Shelves.addRaws l s.man (Shelves.frameOf st.toNat ch)) with
      | none => rfl
      | some s => exact absurd ((Shelves.open_clean hO).1 (Shelves.after_some ha).2).1 hc
  · refine ⟨Shelves.zeroS, false, Or.inr ⟨hd, rfl, rfl⟩, Or.inr ⟨rfl, ?_⟩⟩
    cases ha : Shelves.after l (Shelves.addRaws l s.man (Shelves.frameOf st.toNat ch)) with
    | none => rfl
    | some s => exact absurd (Shelves.after_some ha).1 hd
theorem implBT_any {st : Int} {ch : List ChangeL} {S : ByteArray} {R : Bool} (hT : Txt st ch S R) {a : Option Addr} {g off cap : Nat} (hlen : ch.length ≤ 2097152) (w : World) (hf : ChangeAt w a g off ch) (hsz : ∀ c ∈ ch, smallChange 2097152 c) :
    Calls Tryz.prog 70 #[.agg #[.int .i64 st, .slice a ch.length cap]] w fun e w' => e = .returned (.tuple #[.string S, .bool R]) ∧ Below w.heap.size w w' := by
  rcases hT with ⟨h, rfl, rfl⟩ | ⟨h, rfl, rfl⟩
  · exact implBT_yes st ch hlen w hf hsz h
  · exact implBT_no st ch hlen w hf hsz h
theorem raws_small {l : List FileL} {m : ManL} {f : List UInt8} (hm : Mans.ok m) (hf : f.length ≤ 20000) : ∀ r ∈ Shelves.addRaws l m f, r.name.size ≤ 1048576 ∧ r.to.size ≤ 1048576 ∧ r.text.size ≤ 1048576 := by
  intro r hr
  have hs := seg_small9 m.next
  have hs2 := seg_small9 (Shelves.lastOf m)
  have hF : (⟨f.toArray⟩ : ByteArray).size ≤ 20000 := by show f.toArray.size ≤ _; rw [List.size_toArray]; exact hf
  unfold Shelves.addRaws at hr
  split at hr
  · rename_i hb
    obtain ⟨_, b2, b3⟩ := Shelves.begins_iff.1 hb
    have hM := sealed_small9 (Shelves.grown_ok hm b2 b3)
    simp only [Shelves.manRaws, List.mem_cons, List.not_mem_nil, or_false] at hr
    rcases hr with rfl | rfl | rfl
    · exact ⟨by show (Shelves.segName m.next).size ≤ _; omega, by simp [Shelves.put1, ByteArray.size], by show (⟨f.toArray⟩ : ByteArray).size ≤ _; omega⟩
    · exact ⟨by simp [Shelves.put1, Shelves.nameNew, ByteArray.size], by simp [Shelves.put1, ByteArray.size], by show (sealedS (Shelves.grown m)).size ≤ _; omega⟩
    · exact ⟨by simp [Shelves.nameNew, ByteArray.size], by simp [Shelves.nameM, ByteArray.size], by simp [ByteArray.size]⟩
  · simp only [List.mem_cons, List.not_mem_nil, or_false] at hr
    subst hr
    exact ⟨by show (Shelves.segName _).size ≤ _; omega, by simp [ByteArray.size], by show (⟨f.toArray⟩ : ByteArray).size ≤ _; omega⟩
set_option maxHeartbeats 8000000 in
set_option maxRecDepth 100000 in
theorem implAdd_any {a ba : Option Addr} {g off cap bg boff bc b : Nat} {va vc vd : Value} (l : List FileL) (hlen : l.length ≤ 1048576) (hsz : ∀ f ∈ l, f.1.size ≤ 1048576 ∧ f.2.size ≤ 1048576) (s : ShelfL) (n1 : s.man.segs.length ≤ 1048576) (n2 : s.man.conf.length ≤ 1048576) (n3 : s.dir.length ≤ 1048576) (st : Int) (ch : List ChangeL) (hcl : ch.length ≤ 2097152) (hcs : ∀ c ∈ ch, smallChange 2097152 c)
    (U : ShelfL) (V : List Disks.RawL) (R : Bool) (hAI : AddIs l s st ch U V R) (w : World) (hp : Pow w) (hf : FilesAt w a g off l) (hA : ShOwn b s va vc vd w) (hc : ChangeAt w ba bg boff ch) :
    Calls Tryz.prog 18 #[.agg #[.slice a l.length cap], shV s va vc vd, .agg #[.int .i64 st, .slice ba ch.length bc]] w (AddPostI w U V R) := by
  obtain ⟨S, T, hT⟩ := txt_ex st ch
  obtain ⟨Q, hQ⟩ : ∃ Q : Bool, Q = true ↔ Shelves.Clean l s := by
    by_cases h : Shelves.Clean l s
    · exact ⟨true, by simp [h]⟩
    · exact ⟨false, by simp [h]⟩
  have hd : (T = false ∧ S = ⟨#[]⟩ ∧ U = Shelves.zeroS ∧ V = [] ∧ R = false) ∨ (T = true ∧ Batches.ok st ch ∧ st < s.stamp ∧ U = Shelves.zeroS ∧ V = [] ∧ R = false) ∨ (T = true ∧ Batches.ok st ch ∧ ¬ st < s.stamp ∧ Q = false ∧ U = Shelves.zeroS ∧ V = [] ∧ R = false) ∨ (T = true ∧ Batches.ok st ch ∧ ¬ st < s.stamp ∧ Q = true) := by
    rcases hT with ⟨h1, _, rfl⟩ | ⟨h1, rfl, rfl⟩
    · by_cases h2 : st < s.stamp
      · rcases hAI with ⟨⟨_, _, h3, _⟩, _⟩ | ⟨_, h4⟩
        · exact absurd h3 (by omega)
        · exact Or.inr (Or.inl ⟨rfl, h1, h2, h4⟩)
      · cases Q with
        | true => exact Or.inr (Or.inr (Or.inr ⟨rfl, h1, h2, rfl⟩))
        | false =>
          rcases hAI with ⟨⟨_, h3, _⟩, _⟩ | ⟨_, h4⟩
          · exact absurd (hQ.2 h3) (by simp)
          · exact Or.inr (Or.inr (Or.inl ⟨rfl, h1, h2, rfl, h4⟩))
    · rcases hAI with ⟨⟨h3, _⟩, _⟩ | ⟨_, h4⟩
      · exact absurd h3 h1
      · exact Or.inl ⟨rfl, rfl, h4⟩
  obtain ⟨sa, sc, e1⟩ := own_slice hA.segs
  obtain ⟨ca, cc, e2⟩ := own_slice hA.conf
  obtain ⟨da, dc, e3⟩ := own_slice hA.dir
  subst e1 e2 e3
  obtain ⟨W, hW⟩ : ∃ W, W = ((((w.alloc (Obj.cells #[Value.slice a l.length cap] 46)).alloc (Obj.cells #[.slice sa s.man.segs.length sc, .int .i64 s.man.next, .int .i64 s.man.base, .int .i64 s.man.term, .slice ca s.man.conf.length cc, .slice da s.dir.length dc, .int .i64 s.stamp] 40)).alloc (Obj.cells #[.int .i64 st, .slice ba ch.length bc] 51)).alloc (Obj.cells #[.slice none 0 0, .int .i64 0, .int .i64 0, .int .i64 0, .slice none 0 0, .slice none 0 0, .int .i64 0] 40)) := ⟨_, rfl⟩
  have hb : Below w.heap.size w W := by rw [hW]; exact ((((Below.refl _ _).alloc (Nat.le_refl _) _).alloc (by simp) _).alloc (by simp; omega) _).alloc (by simp; omega) _
  have p0 : W.heap[w.heap.size]? = some (.cells #[Value.slice a l.length cap] 46 (0, 0)) := by
    rw [hW, Below.heap_alloc _ _ _ (by simp; omega), Below.heap_alloc _ _ _ (by simp; omega), Below.heap_alloc _ _ _ (by simp)]; exact heap_alloc_new w _
  have p1 : W.heap[w.heap.size + 1]? = some (.cells #[.slice sa s.man.segs.length sc, .int .i64 s.man.next, .int .i64 s.man.base, .int .i64 s.man.term, .slice ca s.man.conf.length cc, .slice da s.dir.length dc, .int .i64 s.stamp] 40 (0, 0)) := by
    rw [hW, Below.heap_alloc _ _ _ (by simp), Below.heap_alloc _ _ _ (by simp)]
    have := heap_alloc_new (w.alloc (Obj.cells #[Value.slice a l.length cap] 46)) (Obj.cells #[.slice sa s.man.segs.length sc, .int .i64 s.man.next, .int .i64 s.man.base, .int .i64 s.man.term, .slice ca s.man.conf.length cc, .slice da s.dir.length dc, .int .i64 s.stamp] 40); simpa using this
  have p2 : W.heap[w.heap.size + 1 + 1]? = some (.cells #[.int .i64 st, .slice ba ch.length bc] 51 (0, 0)) := by
    rw [hW, Below.heap_alloc _ _ _ (by simp)]
    have := heap_alloc_new ((w.alloc (Obj.cells #[Value.slice a l.length cap] 46)).alloc (Obj.cells #[.slice sa s.man.segs.length sc, .int .i64 s.man.next, .int .i64 s.man.base, .int .i64 s.man.term, .slice ca s.man.conf.length cc, .slice da s.dir.length dc, .int .i64 s.stamp] 40)) (Obj.cells #[.int .i64 st, .slice ba ch.length bc] 51); simpa using this
  have p3 : W.heap[w.heap.size + 1 + 1 + 1]? = some (.cells #[.slice none 0 0, .int .i64 0, .int .i64 0, .int .i64 0, .slice none 0 0, .slice none 0 0, .int .i64 0] 40 (0, 0)) := by
    rw [hW]
    have := heap_alloc_new (((w.alloc (Obj.cells #[Value.slice a l.length cap] 46)).alloc (Obj.cells #[.slice sa s.man.segs.length sc, .int .i64 s.man.next, .int .i64 s.man.base, .int .i64 s.man.term, .slice ca s.man.conf.length cc, .slice da s.dir.length dc, .int .i64 s.stamp] 40)).alloc (Obj.cells #[.int .i64 st, .slice ba ch.length bc] 51)) (Obj.cells #[.slice none 0 0, .int .i64 0, .int .i64 0, .int .i64 0, .slice none 0 0, .slice none 0 0, .int .i64 0] 40); simpa using this
  have HB : Hid (Below w.heap.size w W) := hb
  have K : ∀ (q : Nat) (ob : Obj), W.heap[q]? = some ob → ∀ W', Below W.heap.size W W' → W'.heap[q]? = some ob := fun q ob h W' hh => (hh.block _ (Array.getElem?_eq_some_iff.1 h).1).trans h
  have HP0 : Hid (∀ W', Below W.heap.size W W' → W'.heap[w.heap.size]? = some (.cells #[Value.slice a l.length cap] 46 (0, 0))) := K _ _ p0
  have HP1 : Hid (∀ W', Below W.heap.size W W' → W'.heap[w.heap.size + 1]? = some (.cells #[.slice sa s.man.segs.length sc, .int .i64 s.man.next, .int .i64 s.man.base, .int .i64 s.man.term, .slice ca s.man.conf.length cc, .slice da s.dir.length dc, .int .i64 s.stamp] 40 (0, 0))) := K _ _ p1
  have HP2 : Hid (∀ W', Below W.heap.size W W' → W'.heap[w.heap.size + 1 + 1]? = some (.cells #[.int .i64 st, .slice ba ch.length bc] 51 (0, 0))) := K _ _ p2
  have HRQ : Hid (∀ W', Below W.heap.size W W' → W'.heap[w.heap.size + 1 + 1 + 1]? = some (.cells #[.slice none 0 0, .int .i64 0, .int .i64 0, .int .i64 0, .slice none 0 0, .slice none 0 0, .int .i64 0] 40 (0, 0))) := K _ _ p3
  have HT : Hid (Calls Tryz.prog 70 #[.agg #[.int .i64 st, .slice ba ch.length bc]] W fun e w' => e = .returned (.tuple #[.string S, .bool T]) ∧ Below W.heap.size W w') := implBT_any hT hcl W (hc.kept hb) hcs
  have HC : Hid (∀ W', Below W.heap.size W W' → Calls Tryz.prog 72 #[.agg #[.slice a l.length cap], .agg #[.slice sa s.man.segs.length sc, .int .i64 s.man.next, .int .i64 s.man.base, .int .i64 s.man.term, .slice ca s.man.conf.length cc, .slice da s.dir.length dc, .int .i64 s.stamp]] W' fun e w' => e = .returned (.bool Q) ∧ Below W'.heap.size W' w') := fun W' h => by
    have := implStands_is (cap := cap) l hlen hsz s n1 n2 n3 Q hQ W' ((hp.below hb).below h) ((hf.kept hb).kept h) ((hA.kept hb).kept h)
    unfold shV cells7 at this
    exact this
  have HFN : Hid (S = ⟨#[]⟩ → ∀ W', Calls Tryz.prog 71 #[.string S] W' fun e w' => e = .returned (.tuple #[.string ⟨#[]⟩, .bool false]) ∧ Below W'.heap.size W' w') := fun e W' => by
    subst e
    exact implFrame_no _ (by simp [ByteArray.size, maxLen]) (by simp [ByteArray.size]) W'
  obtain ⟨F, hF⟩ : ∃ F : ByteArray, F = ⟨(Shelves.frameOf st.toNat ch).toArray⟩ := ⟨_, rfl⟩
  have HFY : Hid (Batches.ok st ch → ∀ W', Calls Tryz.prog 71 #[.string S] W' fun e w' => e = .returned (.tuple #[.string F, .bool true]) ∧ Below W'.heap.size W' w') := fun ho W' => by
    obtain ⟨S', hT', q1, q2, q3⟩ := txt_frame ho
    have e : S = S' := by
      rcases hT with ⟨_, h2, _⟩ | ⟨h1, _⟩
      · rcases hT' with ⟨_, h3, _⟩ | ⟨_, _, h3⟩
        · rw [h2, h3]
        · cases h3
      · exact absurd ho h1
    subst e
    have := implFrame_yes S q1 q2 W'
    unfold frameTuple at this
    rw [q3, ← hF] at this
    exact this
  have HGO : Hid (Batches.ok st ch → ¬ st < s.stamp → Q = true → ∃ (t : ShelfL) (X : List Disks.RawL), X.length ≤ 3 ∧ U = (if R = true then t else Shelves.zeroS) ∧ V = (if R = true then X else []) ∧ (∀ W', Below W.heap.size W W' → Calls Tryz.prog 73 #[.agg #[.slice a l.length cap], .agg #[.slice sa s.man.segs.length sc, .int .i64 s.man.next, .int .i64 s.man.base, .int .i64 s.man.term, .slice ca s.man.conf.length cc], .string F] W' fun e w' => ∃ v, e = .returned v ∧ w'.ownsRow W'.heap.size 103 4 v X.length (cellsRaw X) ∧ Below W'.heap.size W' w') ∧ (∀ W' B v, Below W.heap.size W W' → W'.ownsRow B 103 4 v X.length (cellsRaw X) → Calls Tryz.prog 74 #[.agg #[.slice a l.length cap], v] W' (BehindPost W' t R))) := fun ho hst hq => by
    have hC := hQ.1 hq
    have hmo := Shelves.man_ok hC
    obtain ⟨t, Y, hBI, hY⟩ := behind_is ho hC
    have hUV : U = (if Y = true then t else Shelves.zeroS) ∧ V = (if Y = true then Shelves.addRaws l s.man (Shelves.frameOf st.toNat ch) else []) ∧ R = Y := by
      rcases hAI with ⟨⟨_, _, _, h4⟩, h5, h6⟩ | ⟨h4, h5, h6, h7⟩
      · rcases hY with ⟨rfl, q⟩ | ⟨rfl, q⟩
        · rw [h4] at q; simp only [Option.some.injEq] at q; subst q; exact ⟨by simp, by simp [h5], h6⟩
        · rw [h4] at q; cases q
      · rcases hY with ⟨rfl, q⟩ | ⟨rfl, q⟩
        · rcases h4 with h4 | h4
          · exact absurd ⟨ho, hC, by omega⟩ h4
          · rw [h4] at q; cases q
        · exact ⟨by simp [h5], by simp [h6], h7⟩
    obtain ⟨hU, hV, rfl⟩ := hUV
    obtain ⟨S', hT', q1, q2, q3⟩ := txt_frame ho
    have hfl : (Shelves.frameOf st.toNat ch).length ≤ 20000 := by
      have e := congrArg ByteArray.size q3
      rw [frameB_size] at e
      have e2 : (⟨(Shelves.frameOf st.toNat ch).toArray⟩ : ByteArray).size = (Shelves.frameOf st.toNat ch).length := by show (Shelves.frameOf st.toNat ch).toArray.size = _; rw [List.size_toArray]
      have := Words.var_len S'.size
      omega
    refine ⟨t, Shelves.addRaws l s.man (Shelves.frameOf st.toNat ch), ?_, hU, hV, fun W' h => ?_, fun W' B v h ho2 => ?_⟩
    · unfold Shelves.addRaws; split <;> simp [Shelves.manRaws]
    · have h2 := (hA.kept hb).kept h
      obtain ⟨_, g1, _, e1, i1⟩ := cellsI_slice h2.segs
      cases e1
      obtain ⟨_, g2, _, e2, i2⟩ := cellsI_slice h2.conf
      cases e2
      have := implAdding_is (cap := cap) (sc := sc) (cc := cc) l hC.disk s.man hmo F (sealedS (Shelves.grown s.man)) rfl (Shelves.addRaws l s.man (Shelves.frameOf st.toNat ch)) (by unfold Shelves.addRaws; rw [hF]; rfl) W' ((hp.below hb).below h) ((hf.kept hb).kept h) i1 i2
      unfold manV at this
      exact this
    · obtain ⟨ra, rg, rc, rfl, h3⟩ := cellsRaw_slice ho2
      exact implBehind_is l _ hC.disk (by unfold Shelves.addRaws; split <;> simp [Shelves.manRaws]) (raws_small hmo hfl) _ _ rfl t R hBI W' ((hp.below hb).below h) ((hf.kept hb).kept h) h3
  unfold shV cells7
  have c0 := cell_of_row _ _ 0 _ _ _ p2
  have c1 := cell_of_row _ _ 1 _ _ _ p2
  simp at c0 c1
  rw [hW] at c0 c1
  clear hT hQ hA hf hc hb p0 p1 p2 p3 K hsz hcs hAI hp hF
  go_enter Tryz.func18, Tryz.ntmps18
  go_wp2_with fail
  rw [← hW]
  clear hW c0 c1
  refine Calls.mono HT.out ?_
  rintro e w1 ⟨rfl, hb1⟩
  have HB1 : Hid (Below W.heap.size W w1) := hb1
  clear hb1 HT
  go_wp2_with fail
  rcases hd with ⟨h1, h2, rfl, rfl, rfl⟩ | ⟨h1, h2, h3, rfl, rfl, rfl⟩ | ⟨h1, h2, h3, h4, rfl, rfl, rfl⟩ | ⟨h1, h2, h3, h4⟩
  · refine Calls.mono (HFN.out h2 _) ?_
    rintro e w2 ⟨rfl, hb2⟩
    have HB2 : Hid (Below W.heap.size W w2) := HB1.out.trans (hb2.mono HB1.out.size)
    clear hb2 HFN HFY HGO HC h2
    subst h1
    have HQ : Hid (w2.heap[w.heap.size + 1 + 1 + 1]? = some (.cells #[.slice none 0 0, .int .i64 0, .int .i64 0, .int .i64 0, .slice none 0 0, .slice none 0 0, .int .i64 0] 40 (0, 0))) := HRQ.out _ HB2.out
    have hbW : Below w.heap.size w w2 := HB.out.trans (HB2.out.mono HB.out.size)
    have HY := res7 HQ.out (.slice none 0 0) (.int .i64 0) (.int .i64 0) (.int .i64 0) (.slice none 0 0) (.slice none 0 0) (.int .i64 0)
    have HFin : Hid (AddPostI w Shelves.zeroS [] false (.returned (.tuple #[.agg #[.slice none 0 0, .int .i64 0, .int .i64 0, .int .i64 0, .slice none 0 0, .slice none 0 0, .int .i64 0], .slice none 0 0, .bool false])) (set7 w2 (w.heap.size + 1 + 1 + 1) (.slice none 0 0) (.int .i64 0) (.int .i64 0) (.int .i64 0) (.slice none 0 0) (.slice none 0 0) (.int .i64 0))) :=
      ⟨.slice none 0 0, .slice none 0 0, .slice none 0 0, _, rfl, ShOwn.zero _ _, apart_nil _, World.ownsRow_nil _ _ _ _, set7_below hbW (by omega) _ _ _ _ _ _ _⟩
    obtain ⟨⟨z0, z1, z2, z3, z4, z5, z6⟩, y0, y1, y2, y3, y4, y5, y6⟩ := seven_cells HQ.out
    clear hbW
    go_wp2
    obtain ⟨u0, u1, u2, u3, u4, u5, u6⟩ := HY
    unfold set7 at u0 u1 u2 u3 u4 u5 u6
    exact bodyPost_ret (v := .tuple #[.agg #[.slice none 0 0, .int .i64 0, .int .i64 0, .int .i64 0, .slice none 0 0, .slice none 0 0, .int .i64 0], .slice none 0 0, .bool false]) (by simp [results, Tryz.results18, go_sem, u0, u1, u2, u3, u4, u5, u6]) rfl HFin.out
  · refine Calls.mono (HFY.out h2 _) ?_
    rintro e w2 ⟨rfl, hb2⟩
    have HB2 : Hid (Below W.heap.size W w2) := HB1.out.trans (hb2.mono HB1.out.size)
    clear hb2 HFN HFY HGO HC h2
    subst h1
    have e6 := cell_of_row _ _ 6 _ _ _ (HP1.out _ HB2.out)
    have m0 := cell_of_row _ _ 0 _ _ _ (HP2.out _ HB2.out)
    simp at e6 m0
    have HQ : Hid (w2.heap[w.heap.size + 1 + 1 + 1]? = some (.cells #[.slice none 0 0, .int .i64 0, .int .i64 0, .int .i64 0, .slice none 0 0, .slice none 0 0, .int .i64 0] 40 (0, 0))) := HRQ.out _ HB2.out
    have hbW : Below w.heap.size w w2 := HB.out.trans (HB2.out.mono HB.out.size)
    have HY := res7 HQ.out (.slice none 0 0) (.int .i64 0) (.int .i64 0) (.int .i64 0) (.slice none 0 0) (.slice none 0 0) (.int .i64 0)
    have HFin : Hid (AddPostI w Shelves.zeroS [] false (.returned (.tuple #[.agg #[.slice none 0 0, .int .i64 0, .int .i64 0, .int .i64 0, .slice none 0 0, .slice none 0 0, .int .i64 0], .slice none 0 0, .bool false])) (set7 w2 (w.heap.size + 1 + 1 + 1) (.slice none 0 0) (.int .i64 0) (.int .i64 0) (.int .i64 0) (.slice none 0 0) (.slice none 0 0) (.int .i64 0))) :=
      ⟨.slice none 0 0, .slice none 0 0, .slice none 0 0, _, rfl, ShOwn.zero _ _, apart_nil _, World.ownsRow_nil _ _ _ _, set7_below hbW (by omega) _ _ _ _ _ _ _⟩
    obtain ⟨⟨z0, z1, z2, z3, z4, z5, z6⟩, y0, y1, y2, y3, y4, y5, y6⟩ := seven_cells HQ.out
    clear hbW
    go_wp2
    obtain ⟨u0, u1, u2, u3, u4, u5, u6⟩ := HY
    unfold set7 at u0 u1 u2 u3 u4 u5 u6
    exact bodyPost_ret (v := .tuple #[.agg #[.slice none 0 0, .int .i64 0, .int .i64 0, .int .i64 0, .slice none 0 0, .slice none 0 0, .int .i64 0], .slice none 0 0, .bool false]) (by simp [results, Tryz.results18, go_sem, u0, u1, u2, u3, u4, u5, u6]) rfl HFin.out
  · refine Calls.mono (HFY.out h2 _) ?_
    rintro e w2 ⟨rfl, hb2⟩
    have HB2 : Hid (Below W.heap.size W w2) := HB1.out.trans (hb2.mono HB1.out.size)
    clear hb2 HFN HFY HGO h2
    subst h1 h4
    have k0 := cell_of_row _ _ 0 _ _ _ (HP0.out _ HB2.out)
    obtain ⟨⟨e0, e1, e2, e3, e4, e5, e6⟩, _⟩ := seven_cells (HP1.out _ HB2.out)
    have m0 := cell_of_row _ _ 0 _ _ _ (HP2.out _ HB2.out)
    simp at k0 m0
    go_wp2_with fail
    clear k0 e0 e1 e2 e3 e4 e5 e6 m0
    refine Calls.mono (HC.out _ HB2.out) ?_
    rintro e w3 ⟨rfl, hb3⟩
    have HB3 : Hid (Below W.heap.size W w3) := HB2.out.trans (hb3.mono HB2.out.size)
    clear hb3
    have HQ : Hid (w3.heap[w.heap.size + 1 + 1 + 1]? = some (.cells #[.slice none 0 0, .int .i64 0, .int .i64 0, .int .i64 0, .slice none 0 0, .slice none 0 0, .int .i64 0] 40 (0, 0))) := HRQ.out _ HB3.out
    have hbW : Below w.heap.size w w3 := HB.out.trans (HB3.out.mono HB.out.size)
    have HY := res7 HQ.out (.slice none 0 0) (.int .i64 0) (.int .i64 0) (.int .i64 0) (.slice none 0 0) (.slice none 0 0) (.int .i64 0)
    have HFin : Hid (AddPostI w Shelves.zeroS [] false (.returned (.tuple #[.agg #[.slice none 0 0, .int .i64 0, .int .i64 0, .int .i64 0, .slice none 0 0, .slice none 0 0, .int .i64 0], .slice none 0 0, .bool false])) (set7 w3 (w.heap.size + 1 + 1 + 1) (.slice none 0 0) (.int .i64 0) (.int .i64 0) (.int .i64 0) (.slice none 0 0) (.slice none 0 0) (.int .i64 0))) :=
      ⟨.slice none 0 0, .slice none 0 0, .slice none 0 0, _, rfl, ShOwn.zero _ _, apart_nil _, World.ownsRow_nil _ _ _ _, set7_below hbW (by omega) _ _ _ _ _ _ _⟩
    obtain ⟨⟨z0, z1, z2, z3, z4, z5, z6⟩, y0, y1, y2, y3, y4, y5, y6⟩ := seven_cells HQ.out
    clear hbW
    go_wp2
    obtain ⟨u0, u1, u2, u3, u4, u5, u6⟩ := HY
    unfold set7 at u0 u1 u2 u3 u4 u5 u6
    exact bodyPost_ret (v := .tuple #[.agg #[.slice none 0 0, .int .i64 0, .int .i64 0, .int .i64 0, .slice none 0 0, .slice none 0 0, .int .i64 0], .slice none 0 0, .bool false]) (by simp [results, Tryz.results18, go_sem, u0, u1, u2, u3, u4, u5, u6]) rfl HFin.out
  · refine Calls.mono (HFY.out h2 _) ?_
    rintro e w2 ⟨rfl, hb2⟩
    have HB2 : Hid (Below W.heap.size W w2) := HB1.out.trans (hb2.mono HB1.out.size)
    obtain ⟨t, X, hX3, hU, hV, h73, h74⟩ := HGO.out h2 h3 h4
    have H73 : Hid _ := h73
    have H74 : Hid _ := h74
    have HU : Hid (U = if R = true then t else Shelves.zeroS) := hU
    have HV : Hid (V = if R = true then X else []) := hV
    clear hb2 HFN HFY HGO h2 h73 h74 hU hV
    subst h1 h4
    have k0 := cell_of_row _ _ 0 _ _ _ (HP0.out _ HB2.out)
    obtain ⟨⟨e0, e1, e2, e3, e4, e5, e6⟩, _⟩ := seven_cells (HP1.out _ HB2.out)
    have m0 := cell_of_row _ _ 0 _ _ _ (HP2.out _ HB2.out)
    simp at k0 m0
    go_wp2_with fail
    clear k0 e0 e1 e2 e3 e4 e5 e6 m0
    refine Calls.mono (HC.out _ HB2.out) ?_
    rintro e w3 ⟨rfl, hb3⟩
    have HB3 : Hid (Below W.heap.size W w3) := HB2.out.trans (hb3.mono HB2.out.size)
    clear hb3
    have k0 := cell_of_row _ _ 0 _ _ _ (HP0.out _ HB3.out)
    obtain ⟨⟨e0, e1, e2, e3, e4, e5, e6⟩, _⟩ := seven_cells (HP1.out _ HB3.out)
    simp at k0
    go_wp2_with fail
    clear k0 e0 e1 e2 e3 e4 e5 e6
    refine Calls.mono (H73.out _ HB3.out) ?_
    rintro e w4 ⟨v, rfl, ho4, hb4⟩
    have HB4 : Hid (Below W.heap.size W w4) := HB3.out.trans (hb4.mono HB3.out.size)
    have HW4 : Hid (Below w.heap.size w w4) := HB.out.trans (HB4.out.mono HB.out.size)
    have hz3 : w.heap.size ≤ w3.heap.size := Nat.le_trans HB.out.size HB3.out.size
    obtain ⟨xa, xc, hv⟩ := own_slice ho4
    subst hv
    have HO4 : Hid (w4.ownsRow w.heap.size 103 4 (.slice xa X.length xc) X.length (cellsRaw X)) := own_mono ho4 hz3
    have k0 := cell_of_row _ _ 0 _ _ _ (HP0.out _ HB4.out)
    simp at k0
    clear ho4 hb4 hz3
    go_wp2_with fail
    clear k0
    refine Calls.mono (H74.out _ _ _ HB4.out HO4.out) ?_
    rintro e w9 ⟨va, vc, vd, rfl, hsh, hap, hb9⟩
    unfold shV cells7
    obtain ⟨ya, yb, hva⟩ := own_slice hsh.segs
    subst hva
    obtain ⟨yc, yd, hvc⟩ := own_slice hsh.conf
    subst hvc
    obtain ⟨ye, yf, hvd⟩ := own_slice hsh.dir
    subst hvd
    have HAP : Hid (Apart (.slice ya t.man.segs.length yb) (.slice yc t.man.conf.length yd)) := hap
    obtain ⟨WA, hWA⟩ : ∃ WA, WA = w9.alloc (Obj.cells #[.slice ya t.man.segs.length yb, .int .i64 t.man.next, .int .i64 t.man.base, .int .i64 t.man.term, .slice yc t.man.conf.length yd, .slice ye t.dir.length yf, .int .i64 t.stamp] 40) := ⟨_, rfl⟩
    have hbA : Below w9.heap.size w9 WA := by rw [hWA]; exact (Below.refl _ _).alloc (Nat.le_refl _) _
    have hb8A : Below w4.heap.size w4 WA := hb9.trans (hbA.mono hb9.size)
    have HBA : Hid (Below W.heap.size W WA) := HB4.out.trans (hb8A.mono HB4.out.size)
    have HWA : Hid (Below w.heap.size w WA) := HB.out.trans (HBA.out.mono HB.out.size)
    have HSH : Hid (ShOwn w.heap.size t (.slice ya t.man.segs.length yb) (.slice yc t.man.conf.length yd) (.slice ye t.dir.length yf) WA) := (hsh.mono HW4.out.size).kept hbA
    have HRA : Hid (WA.ownsRow w.heap.size 103 4 (.slice xa X.length xc) X.length (cellsRaw X)) := own_kept HO4.out hb8A
    have hqA : WA.heap[w9.heap.size]? = some (.cells #[.slice ya t.man.segs.length yb, .int .i64 t.man.next, .int .i64 t.man.base, .int .i64 t.man.term, .slice yc t.man.conf.length yd, .slice ye t.dir.length yf, .int .i64 t.stamp] 40 (0, 0)) := by rw [hWA]; exact heap_alloc_new w9 _
    have rQ := HRQ.out _ HBA.out
    have HQA : Hid (WA.heap[w.heap.size + 1 + 1 + 1]? = some (.cells #[.slice none 0 0, .int .i64 0, .int .i64 0, .int .i64 0, .slice none 0 0, .slice none 0 0, .int .i64 0] 40 (0, 0))) := rQ
    obtain ⟨⟨e0, e1, e2, e3, e4, e5, e6⟩, _⟩ := seven_cells hqA
    have HL : Hid (w.heap.size + 1 + 1 + 1 < w9.heap.size) := by
      show _ < _
      have h1 := (Array.getElem?_eq_some_iff.1 (HRQ.out _ HB4.out)).1
      have h2 := hb9.size
      omega
    have hn2 : w9.heap.size ≠ w.heap.size + 1 + 1 + 1 := by have := HL.out; omega
    have hn2' : w.heap.size + 1 + 1 + 1 ≠ w9.heap.size := by have := HL.out; omega
    clear hsh hb9 hbA hb8A hqA hap H73 H74 HC hX3
    obtain ⟨⟨z0, z1, z2, z3, z4, z5, z6⟩, y0, y1, y2, y3, y4, y5, y6⟩ := seven_cells rQ
    clear rQ
    cases R with
    | true =>
      have HY := res7 HQA.out (.slice ya t.man.segs.length yb) (.int .i64 t.man.next) (.int .i64 t.man.base) (.int .i64 t.man.term) (.slice yc t.man.conf.length yd) (.slice ye t.dir.length yf) (.int .i64 t.stamp)
      have HFin : Hid (AddPostI w U V true (.returned (.tuple #[.agg #[.slice ya t.man.segs.length yb, .int .i64 t.man.next, .int .i64 t.man.base, .int .i64 t.man.term, .slice yc t.man.conf.length yd, .slice ye t.dir.length yf, .int .i64 t.stamp], .slice xa X.length xc, .bool true])) (set7 WA (w.heap.size + 1 + 1 + 1) (.slice ya t.man.segs.length yb) (.int .i64 t.man.next) (.int .i64 t.man.base) (.int .i64 t.man.term) (.slice yc t.man.conf.length yd) (.slice ye t.dir.length yf) (.int .i64 t.stamp))) := by
        show AddPostI _ _ _ _ _ _
        rw [HU.out, HV.out]
        exact ⟨_, _, _, _, rfl, set7_sh HSH.out HQA.out (by decide) (by decide) _ _ _ _ _ _ _, HAP.out, set7_own HRA.out HQA.out (by decide) _ _ _ _ _ _ _, set7_below HWA.out (by omega) _ _ _ _ _ _ _⟩
      rw [hWA] at e0 e1 e2 e3 e4 e5 e6 z0 z1 z2 z3 z4 z5 z6 y0 y1 y2 y3 y4 y5 y6
      go_wp2
      rw [← hWA]
      obtain ⟨u0, u1, u2, u3, u4, u5, u6⟩ := HY
      unfold set7 at u0 u1 u2 u3 u4 u5 u6
      exact bodyPost_ret (v := .tuple #[.agg #[.slice ya t.man.segs.length yb, .int .i64 t.man.next, .int .i64 t.man.base, .int .i64 t.man.term, .slice yc t.man.conf.length yd, .slice ye t.dir.length yf, .int .i64 t.stamp], .slice xa X.length xc, .bool true]) (by simp [results, Tryz.results18, go_sem, u0, u1, u2, u3, u4, u5, u6]) rfl HFin.out
    | false =>
      have HY := res7 HQA.out (.slice none 0 0) (.int .i64 0) (.int .i64 0) (.int .i64 0) (.slice none 0 0) (.slice none 0 0) (.int .i64 0)
      have HFin : Hid (AddPostI w U V false (.returned (.tuple #[.agg #[.slice none 0 0, .int .i64 0, .int .i64 0, .int .i64 0, .slice none 0 0, .slice none 0 0, .int .i64 0], .slice none 0 0, .bool false])) (set7 WA (w.heap.size + 1 + 1 + 1) (.slice none 0 0) (.int .i64 0) (.int .i64 0) (.int .i64 0) (.slice none 0 0) (.slice none 0 0) (.int .i64 0))) := by
        show AddPostI _ _ _ _ _ _
        rw [HU.out, HV.out]
        exact ⟨.slice none 0 0, .slice none 0 0, .slice none 0 0, _, rfl, ShOwn.zero _ _, apart_nil _, World.ownsRow_nil _ _ _ _, set7_below HWA.out (by omega) _ _ _ _ _ _ _⟩
      clear e0 e1 e2 e3 e4 e5 e6
      rw [hWA] at z0 z1 z2 z3 z4 z5 z6 y0 y1 y2 y3 y4 y5 y6
      go_wp2
      rw [← hWA]
      obtain ⟨u0, u1, u2, u3, u4, u5, u6⟩ := HY
      unfold set7 at u0 u1 u2 u3 u4 u5 u6
      exact bodyPost_ret (v := .tuple #[.agg #[.slice none 0 0, .int .i64 0, .int .i64 0, .int .i64 0, .slice none 0 0, .slice none 0 0, .int .i64 0], .slice none 0 0, .bool false]) (by simp [results, Tryz.results18, go_sem, u0, u1, u2, u3, u4, u5, u6]) rfl HFin.out
end Go.Proofs.YtbcfiiilikkkeaaGreatDoor
namespace Go.Proofs.YtbcfiiilikkkeaaGreatDoor
open Go.RowKit Go.Extern.Stop Go.Stop Go.Extern
set_option linter.unusedVariables false

def ErrT (w : World) : Prop := w.cell? ⟨0, 0, none⟩ = some (.iface 310 (.agg #[.pointer (some ⟨6, 142, none⟩)]))
theorem ErrT.below {w w' : World} (h : ErrT w) (hb : Below w.heap.size w w') : ErrT w' := (hb.cell (p := ⟨0, 0, none⟩) (World.block_lt_of_cell? w _ h)).trans h
end Go.Proofs.YtbcfiiilikkkeaaGreatDoor
namespace Go.Proofs.YtbcfiiilikkkeaaGreatDoor
open Go.RowKit
open Shelves (OpenIs)
set_option linter.unusedVariables false
set_option linter.unusedSimpArgs false

theorem LawS.calls {w W W' : World} {bs : List (Nat × Obj)} {rows : List RowD} (h : LawS w bs rows W) (hb : Below W.heap.size W W') (new : List RowD) (hv : ∀ r ∈ new, W'.ownsRow W.heap.size r.e r.z r.v r.n r.xs) (ha : new.Pairwise fun r s => r.v.ownBlock = none ∨ r.v.ownBlock ≠ s.v.ownBlock) : LawS w bs (new ++ rows) W' := by
  have h2 := h.step hb
  refine ⟨h2.below, h2.has, fun p hp => ?_, fun p hp q hq => ?_, List.pairwise_append.2 ⟨ha, h.apart, fun r hr q hq => ?_⟩, h.dist, h.up⟩
  · rcases List.mem_append.1 hp with hp | hp
    · exact own_mono (hv p hp) h.below.size
    · exact h2.own p hp
  · rcases List.mem_append.1 hq with hq | hq
    · intro e
      have h3 := ((hv q hq).lt _ e).1
      have h4 := h.bsz p hp
      omega
    · exact h.sep p hp q hq
  · cases e : r.v.ownBlock with
    | none => exact Or.inl rfl
    | some k =>
      right
      intro e2
      have h3 := ((hv r hr).lt _ e).1
      have h4 := h.rsz q hq k e2.symm
      omega
theorem own_types {W : World} {B1 B2 t1 t2 z1 z2 n1 n2 : Nat} {u v : Value} {xs ys : List Value} (h1 : W.ownsRow B1 t1 z1 u n1 xs) (h2 : W.ownsRow B2 t2 z2 v n2 ys) (hne : t1 ≠ t2) : u.ownBlock = none ∨ u.ownBlock ≠ v.ownBlock := by
  rcases h2.2 with ⟨rfl, _⟩ | ⟨g, cap, cur, rfl, _, hh, _⟩
  · cases e : u.ownBlock with
    | none => exact Or.inl rfl
    | some k => right; simp [Value.ownBlock]
  · exact Or.inr (own_not h1 hh hne)
theorem LawS.shelf {w W W' : World} {bs : List (Nat × Obj)} {rows : List RowD} (h : LawS w bs rows W) (hb : Below W.heap.size W W') {s : ShelfL} {va vc vd rv : Value} {rs : List Disks.RawL} (hs : ShOwn W.heap.size s va vc vd W') (hap : Apart va vc) (hr : W'.ownsRow W.heap.size 103 4 rv rs.length (cellsRaw rs)) :
    LawS w bs (⟨va, 3, 1, s.man.segs.length, cellsI s.man.segs⟩ :: ⟨vc, 3, 1, s.man.conf.length, cellsI s.man.conf⟩ :: ⟨vd, 134, 4, s.dir.length, cellsSpot s.dir⟩ :: ⟨rv, 103, 4, rs.length, cellsRaw rs⟩ :: rows) W' := by
  refine h.calls hb [⟨va, 3, 1, s.man.segs.length, cellsI s.man.segs⟩, ⟨vc, 3, 1, s.man.conf.length, cellsI s.man.conf⟩, ⟨vd, 134, 4, s.dir.length, cellsSpot s.dir⟩, ⟨rv, 103, 4, rs.length, cellsRaw rs⟩] (fun r hm => ?_) ?_
  · simp only [List.mem_cons, List.not_mem_nil, or_false] at hm
    rcases hm with rfl | rfl | rfl | rfl
    · exact hs.segs
    · exact hs.conf
    · exact hs.dir
    · exact hr
  · simp only [List.pairwise_cons, List.mem_cons, List.not_mem_nil, or_false, List.Pairwise.nil, and_true, forall_eq_or_imp, forall_eq, false_implies, implies_true]
    exact ⟨⟨apart_ne hap, own_types hs.segs hs.dir (by decide), own_types hs.segs hr (by decide)⟩, ⟨own_types hs.conf hs.dir (by decide), own_types hs.conf hr (by decide)⟩, own_types hs.dir hr (by decide)⟩
theorem eqRawS_own {B B' : Nat} {v v' : Value} (l : List Disks.RawL) (hlen : l.length ≤ 100) (w : World) (h : w.ownsRow B 103 4 v l.length (cellsRaw l)) (h' : w.ownsRow B' 103 4 v' l.length (cellsRaw l)) :
    Calls Tryz.prog 20 #[v, v'] w fun e w' => e = .returned (.bool true) ∧ Below w.heap.size w w' := by
  obtain ⟨a, g, cap, rfl, h1⟩ := cellsRaw_slice h
  obtain ⟨a', g', cap', rfl, h2⟩ := cellsRaw_slice h'
  exact eqRawS_same l (by omega) w h1 h2
end Go.Proofs.YtbcfiiilikkkeaaGreatDoor
namespace Go.Proofs.YtbcfiiilikkkeaaGreatDoor
open Go.RowKit

set_option maxHeartbeats 1000000 in
theorem szBatch_any {st : Int} {a : Option Addr} {g off cap : Nat} (l : List ChangeL) (hlen : l.length ≤ maxLen) (hsz : ∀ r ∈ l, smallChange maxLen r) (left : Nat) (hl : left ≤ 1048576) (w : World) (hf : ChangeAt w a g off l) :
    Calls Tryz.prog 13 #[.agg #[.int .i64 st, .slice a l.length cap], .int .i64 (left : Int)] w fun e w' => ∃ x : Int, e = .returned (.int .i64 x) ∧ Left left (totChange l) x ∧ Below w.heap.size w w' := by
  have HF : Hid (ChangeAt (w.alloc (.cells #[.int .i64 st, .slice a l.length cap] 33)) a g off l) := hf.kept ((Below.refl _ _).alloc (Nat.le_refl _) _)
  have HS : Hid (∀ r ∈ l, smallChange maxLen r) := hsz
  have HL : Hid (l.length ≤ maxLen) := hlen
  clear hf hsz hlen
  go_enter Tryz.func13, Tryz.ntmps13
  go_wp2_with fail
  refine (szChangeS_is l HL.out HS.out left hl _ HF.out).mono ?_
  rintro e w1 ⟨x, rfl, hx, hb1⟩
  have hB : Below w.heap.size w w1 := ((Below.refl _ _).alloc (Nat.le_refl _) _).trans (hb1.mono (by simp))
  rcases hx with ⟨hx1, hx2⟩ | ⟨hx1, hx2⟩
  · obtain ⟨Y, hY⟩ : ∃ Y : Nat, Y = left - totChange l := ⟨_, rfl⟩
    rw [← hY] at hx2
    subst hx2
    have HY : Hid (Y = left - totChange l) := hY
    clear hY
    go_wp2
    go_ret
    exact ⟨_, rfl, Or.inl ⟨hx1, by rw [HY.out]⟩, hB⟩
  · subst hx2
    go_wp2
    go_ret
    exact ⟨_, rfl, Or.inr ⟨hx1, rfl⟩, hB⟩

set_option maxHeartbeats 1000000 in
theorem toBatch_any {st : Int} {a : Option Addr} {g off cap : Nat} (l : List ChangeL) (hlen : l.length ≤ 1048576) (w : World) (hf : ChangeAt w a g off l) :
    Calls Tryz.prog 17 #[.agg #[.int .i64 st, .slice a l.length cap]] w fun e w' => ∃ g' : Nat, e = .returned (.agg #[.int .i64 st, .slice (some ⟨g', 0, none⟩) l.length l.length]) ∧ w.heap.size ≤ g' ∧
      w'.ownsRow w.heap.size 149 3 (.slice (some ⟨g', 0, none⟩) l.length l.length) l.length (cellsChange l) ∧ Below w.heap.size w w' := by
  have HF : Hid (ChangeAt w a g off l) := hf
  clear hf
  go_enter Tryz.func17, Tryz.ntmps17
  go_wp2_with fail
  obtain ⟨W, hW⟩ : ∃ W, W = (((w.alloc (Obj.cells #[Value.int IntKind.i64 st, Value.slice a l.length cap] 33)).alloc (Obj.cells #[Value.int IntKind.i64 0, Value.slice none 0 0] 51)).alloc (Obj.cells #[Value.int IntKind.i64 st, Value.slice none 0 0] 51)) := ⟨_, rfl⟩
  rw [← hW]
  have hWs : W.heap.size = w.heap.size + 3 := by rw [hW]; simp
  have hWb : Below w.heap.size w W := by rw [hW]; exact (((Below.refl _ _).alloc (Nat.le_refl _) _).alloc (by simp) _).alloc (by simp; omega) _
  have b2 : W.heap[w.heap.size + 1 + 1]? = some (.cells #[.int .i64 st, .slice none 0 0] 51 (0, 0)) := by
    rw [hW]; have := heap_alloc_new ((w.alloc (Obj.cells #[Value.int IntKind.i64 st, Value.slice a l.length cap] 33)).alloc (Obj.cells #[Value.int IntKind.i64 0, Value.slice none 0 0] 51)) (Obj.cells #[Value.int IntKind.i64 st, Value.slice none 0 0] 51); simpa using this
  have b1 : W.heap[w.heap.size + 1]? = some (.cells #[.int .i64 0, .slice none 0 0] 51 (0, 0)) := by
    rw [hW, Below.heap_alloc _ _ _ (by simp)]
    have := heap_alloc_new (w.alloc (Obj.cells #[Value.int IntKind.i64 st, Value.slice a l.length cap] 33)) (Obj.cells #[Value.int IntKind.i64 0, Value.slice none 0 0] 51); simpa using this
  clear hW
  refine (toChangeS_is l hlen W (HF.out.kept hWb)).mono ?_
  rintro e w1 ⟨rfl, hown, hb1⟩
  rw [hWs] at hown ⊢
  rw [← hb1.block _ (by omega)] at b1 b2
  have hB : Below w.heap.size w w1 := hWb.trans (hb1.mono (by omega))
  have c10 : w1.cell? ⟨w.heap.size + 1, 0, none⟩ = some (.int .i64 0) := cell_of_row _ _ 0 _ _ _ b1
  have c11 : w1.cell? ⟨w.heap.size + 1, 1, none⟩ = some (.slice none 0 0) := cell_of_row _ _ 1 _ _ _ b1
  have c20 : w1.cell? ⟨w.heap.size + 1 + 1, 0, none⟩ = some (.int .i64 st) := cell_of_row _ _ 0 _ _ _ b2
  have c21 : w1.cell? ⟨w.heap.size + 1 + 1, 1, none⟩ = some (.slice none 0 0) := cell_of_row _ _ 1 _ _ _ b2
  have f1 : ∀ i, w1.frozen? ⟨w.heap.size + 1, i, none⟩ = false := fun i => by simp [World.frozen?, b1]
  have f2 : ∀ i, w1.frozen? ⟨w.heap.size + 1 + 1, i, none⟩ = false := fun i => by simp [World.frozen?, b2]
  have HR : Hid (w1.heap[w.heap.size + 1]? = some (.cells #[.int .i64 0, .slice none 0 0] 51 (0, 0))) := b1
  clear b1 b2 hWb hb1
  go_wp2
  obtain ⟨l0, l1⟩ := two_cell (set_far (R := w.heap.size + 1 + 1) HR.out (by omega) 1 (.slice (some ⟨w.heap.size + 3, 0, none⟩) l.length l.length)) (.int .i64 st) (.slice (some ⟨w.heap.size + 3, 0, none⟩) l.length l.length)
  refine bodyPost_ret (v := .agg #[.int .i64 st, .slice (some ⟨w.heap.size + 3, 0, none⟩) l.length l.length]) (by simp [results, Tryz.results17, go_sem, l0, l1]) rfl ⟨w.heap.size + 3, rfl, by omega, ?_, ?_⟩
  · exact own_set (own_set (own_set (own_mono hown (by omega)) _ _ _ (by simp [Value.ownBlock])) _ _ _ (by simp [Value.ownBlock])) _ _ _ (by simp [Value.ownBlock])
  · exact ((hB.setCell (by simp; omega) _).setCell (by simp) _).setCell (by simp) _
set_option maxHeartbeats 1000000 in
theorem eqBatch_same {st : Int} {a b : Option Addr} {g off cap h off' cap' : Nat} (l : List ChangeL) (hlen : l.length ≤ 1048576) (w : World) (hf : ChangeAt w a g off l) (hf' : ChangeAt w b h off' l) :
    Calls Tryz.prog 22 #[.agg #[.int .i64 st, .slice a l.length cap], .agg #[.int .i64 st, .slice b l.length cap']] w fun e w' => e = .returned (.bool true) ∧ Below w.heap.size w w' := by
  have HF : Hid (ChangeAt w a g off l) := hf
  have HF' : Hid (ChangeAt w b h off' l) := hf'
  clear hf hf'
  go_enter Tryz.func22, Tryz.ntmps22
  go_wp2_with fail
  have hB : Below w.heap.size w ((w.alloc (Obj.cells #[.int .i64 st, Value.slice a l.length cap] 51)).alloc (Obj.cells #[.int .i64 st, Value.slice b l.length cap'] 51)) := ((Below.refl _ _).alloc (Nat.le_refl _) _).alloc (by simp) _
  refine (eqChangeS_same l hlen _ (HF.out.kept hB) (HF'.out.kept hB)).mono ?_
  rintro e w1 ⟨rfl, hb1⟩
  have hB1 := hB.trans (hb1.mono hB.size)
  clear hb1 hB
  go_wp2
  go_ret
  exact ⟨rfl, hB1⟩
end Go.Proofs.YtbcfiiilikkkeaaGreatDoor
