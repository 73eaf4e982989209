/- Plain facts on shelves: a disk behind the raw writes of a batch needs none, if a shelf is on it; no program is named here. The specification's AddBatch at every argument, out of its three ways. The program's rawsBeginning: the raw writes that begin a segment, walked. The program's rawsAdding: the raw writes of a batch, walked. The library's slices.Equal at lists of spots, walked. -/
import Derived.Test.YtbcfiiilikkkeaaGreatDoorDiskImplOk
import Derived.Test.YtbcfiiilikkkeaaGreatDoorMathFormat
import Derived.Test.YtbcfiiilikkkeaaGreatDoorReadLaw
import Derived.Test.YtbcfiiilikkkeaaGreatDoorSpecAdd3
import Derived.Test.YtbcfiiilikkkeaaGreatDoorDiskTold
import Derived.Test.YtbcfiiilikkkeaaGreatDoorSpecAdd
namespace Go.Proofs.YtbcfiiilikkkeaaGreatDoor
set_option linter.unusedVariables false
namespace Shelves
open Go
open Batches (by_ by_inj lt)
open Scan (segEnd segSpots segStamp Full valAt by_len)
open Disks (fileAt textOf RawL nameIs run putRaw rawOut)
theorem load_clean {D : List FileL} {t : ShelfL} {e : Nat} (hL : Loads D t e) (hfull : Full (textAt D (lastOf t.man))) (hnew : fileAt D nameNew = none) (hlone : ∀ n : Nat, n ≤ 999 → (n : Int) ∉ t.man.segs → fileAt D (segName n) = none) : Clean D t := by
  obtain ⟨h0, h1, h2, h3, h4, h5, h6, h7⟩ := hL
  have hok : Mans.ok t.man := by obtain ⟨t, _, q⟩ := h1; exact q.2
  refine ⟨h0, h1, h2, fun n hn => ?_, h4, h5, h6, hnew, hlone⟩
  rw [(segs_ne hok).1] at hn
  rcases List.mem_append.1 hn with hn | hn
  · exact h3 n hn
  · rw [List.mem_singleton.1 hn]; exact hfull
theorem opens_loads {D : List FileL} {t : ShelfL} {more : List RawL} (h : opens D = .ok (t, more)) : ∃ e, Loads D t e := by
  unfold opens at h
  cases hl : load D with
  | error c => rw [hl] at h; cases h
  | ok p =>
    obtain ⟨s', e⟩ := p
    rw [hl] at h
    simp only [Except.ok.injEq, Prod.mk.injEq] at h
    obtain ⟨rfl, _⟩ := h
    exact ⟨e, load_iff.1 hl⟩
theorem loads_man {D : List FileL} {t : ShelfL} {e : Nat} {x : ByteArray} {m : ManL} (hL : Loads D t e) (ht : fileAt D nameM = some x) (hg : Mans.Got x m) : t.man = m := by
  obtain ⟨u, h1, h2⟩ := hL.man
  rw [ht] at h1
  cases h1
  have := (Mans.manOf_iff.2 h2).symm.trans (Mans.manOf_iff.2 hg)
  simpa using this
theorem frame_full {l : List UInt8} {st : Nat} {ch : List ChangeL} (hf : Full l) (ho : Batches.ok (st : Int) ch) : Full (l ++ frameOf st ch) := (Scan.seg_add hf (Scan.text_rec ho) (Scan.bat_text ho)).2
/-- The disk behind a batch: what is opened there needs no raw writes. -/
theorem add_opens {l : List FileL} {s t : ShelfL} {st : Nat} {ch : List ChangeL} {more : List RawL} (h : Clean l s) (ho : Batches.ok (st : Int) ch) (h1 : (run l (addRaws l s.man (frameOf st ch))).2 = (addRaws l s.man (frameOf st ch)).length) (hO : opens (run l (addRaws l s.man (frameOf st ch))).1 = .ok (t, more)) : more = [] := by
  have mo := man_ok h
  obtain ⟨e0, hin⟩ := segs_ne mo
  obtain ⟨e, hL⟩ := opens_loads hO
  have key : Clean (run l (addRaws l s.man (frameOf st ch))).1 t := by
    rcases add_disk h1 with ⟨hb, eD⟩ | ⟨hb, eD⟩
    · obtain ⟨x, hx, hg⟩ := h.man
      have hm : t.man = s.man := loads_man hL (by rw [eD, Disks.fileAt_put_ne _ (segName_m _).symm]; exact hx) hg
      refine load_clean hL ?_ ?_ fun n hn hs => ?_
      · rw [hm, eD, textAt_put_same]
        exact frame_full (h.full _ (last_mem mo)) ho
      · rw [eD, Disks.fileAt_put_ne _ (segName_new _).symm]; exact h.new
      · rw [hm] at hs
        rw [eD, Disks.fileAt_put_ne _ fun q => hs (by rw [segName_inj (by omega) (hin _ (last_mem mo)) q]; exact last_mem mo)]
        exact h.lone n hn hs
    · obtain ⟨b1, b2, b3⟩ := begins_iff.1 hb
      have h0 := mo.2.1.1
      have hm : t.man = grown s.man := loads_man hL (x := ⟨(Mans.sealed (Mans.text (grown s.man))).toArray⟩) (by rw [eD, Disks.fileAt_put_same]) ⟨rfl, grown_ok mo b2 b3⟩
      have hlast : lastOf (grown s.man) = s.man.next := by unfold lastOf grown; simp
      refine load_clean hL ?_ ?_ fun n hn hs => ?_
      · rw [hm, hlast, eD]
        unfold textAt
        rw [Disks.textOf_at, Disks.fileAt_put_ne _ (segName_m _), Disks.fileAt_drop_ne (segName_new _), Disks.fileAt_put_ne _ (segName_new _), Disks.fileAt_put_same]
        show Full (by_ ⟨(frameOf st ch).toArray⟩)
        have := frame_full (st := st) (ch := ch) Scan.full_nil ho
        rw [List.nil_append] at this
        exact this
      · rw [eD, Disks.fileAt_put_ne _ m_new.symm, Disks.fileAt_drop_same]
      · rw [hm] at hs
        rw [eD, Disks.fileAt_put_ne _ (segName_m _), Disks.fileAt_drop_ne (segName_new _), Disks.fileAt_put_ne _ (segName_new _), Disks.fileAt_put_ne _ fun q => hs (by rw [segName_inj (by omega) ⟨h0, b3⟩ q]; unfold grown; simp)]
        exact h.lone n hn fun hn' => hs (by unfold grown; simp only; exact List.mem_append_left _ hn')
  have := hO.symm.trans (opens_clean.2 key)
  simpa using this
/-- What AddBatch answers. -/
def AddIs (l : List FileL) (s : ShelfL) (st : Int) (ch : List ChangeL) (U : ShelfL) (V : List RawL) (R : Bool) : Prop :=
  ((Batches.ok st ch ∧ Clean l s ∧ s.stamp ≤ st ∧ after l (addRaws l s.man (frameOf st.toNat ch)) = some U) ∧ V = addRaws l s.man (frameOf st.toNat ch) ∧ R = true) ∨
  ((¬ (Batches.ok st ch ∧ Clean l s ∧ s.stamp ≤ st) ∨ after l (addRaws l s.man (frameOf st.toNat ch)) = none) ∧ U = zeroS ∧ V = [] ∧ R = false)
theorem add_ex (l : List FileL) (s : ShelfL) (st : Int) (ch : List ChangeL) : ∃ U V R, AddIs l s st ch U V R := by
  by_cases h : Batches.ok st ch ∧ Clean l s ∧ s.stamp ≤ st
  · cases ha : after l (addRaws l s.man (frameOf st.toNat ch)) with
    | none => exact ⟨_, _, _, Or.inr ⟨Or.inr ha, rfl, rfl, rfl⟩⟩
    | some U => exact ⟨U, _, _, Or.inl ⟨⟨h.1, h.2.1, h.2.2, ha⟩, rfl, rfl⟩⟩
  · exact ⟨_, _, _, Or.inr ⟨Or.inl h, rfl, rfl, rfl⟩⟩
end Shelves
end Go.Proofs.YtbcfiiilikkkeaaGreatDoor
namespace Go.Proofs.YtbcfiiilikkkeaaGreatDoor
open Go.RowKit
open Shelves (OpenIs AddIs)
set_option linter.unusedVariables false

theorem frame_bytes (r : List UInt8) : frameB ⟨r.toArray⟩ = ⟨(Words.frame r).toArray⟩ := by
  apply Batches.by_inj
  show (frameB ⟨r.toArray⟩).data.toList = Words.frame r
  simp [frameB, Words.frame, ByteArray.size, ByteArray.data_append]
theorem after_is (l : List FileL) (rs : List Disks.RawL) : ∃ t R, AfterIs (Disks.run l rs).1 (Disks.run l rs).2 rs.length t R ∧ ((R = true ∧ Shelves.after l rs = some t) ∨ (R = false ∧ Shelves.after l rs = none)) := by
  by_cases hd : (Disks.run l rs).2 = rs.length
  · obtain ⟨t, more, c, hO⟩ := Shelves.open_ex (Disks.run l rs).1
    by_cases hc : c = 0 ∧ more = []
    · refine ⟨t, true, Or.inl ⟨hd, more, c, hO, by simp [hc]⟩, Or.inl ⟨rfl, ?_⟩⟩
      exact Shelves.after_clean hd ((Shelves.open_clean hO).2 ⟨hc.1, hc.2, rfl⟩)
    · refine ⟨t, false, Or.inl ⟨hd, more, c, hO, by simp only [Bool.false_eq_true, false_iff]; exact hc⟩, Or.inr ⟨rfl, ?_⟩⟩
      cases ha : Shelves.after l rs with
      | none => rfl
      | some s =>
        have := (Shelves.open_clean hO).1 (Shelves.after_some ha).2
        exact absurd ⟨this.1, this.2.1⟩ hc
  · refine ⟨Shelves.zeroS, false, Or.inr ⟨hd, rfl, rfl⟩, Or.inr ⟨rfl, ?_⟩⟩
    cases ha : Shelves.after l rs with
    | none => rfl
    | some s => exact absurd (Shelves.after_some ha).1 hd
theorem txt_frame {st : Int} {ch : List ChangeL} (ho : Batches.ok st ch) : ∃ S, Txt st ch S true ∧ 1 ≤ S.size ∧ S.size ≤ 9000 ∧ frameB S = ⟨(Shelves.frameOf st.toNat ch).toArray⟩ := by
  have h0 : ((st.toNat : Nat) : Int) = st := by have := ho.1; omega
  have hr := Scan.text_rec (st := st.toNat) (l := ch) (by rw [h0]; exact ho)
  refine ⟨⟨(Batches.text st.toNat ch).toArray⟩, Or.inl ⟨ho, rfl, rfl⟩, ?_, ?_, frame_bytes _⟩
  · show 1 ≤ (Batches.text st.toNat ch).toArray.size
    rw [List.size_toArray]; exact hr.1
  · show (Batches.text st.toNat ch).toArray.size ≤ 9000
    rw [List.size_toArray]; exact hr.2
theorem add9_any {a ba : Option Addr} {g off cap bg boff bc b : Nat} {va vc vd : Value} (l : List FileL) (hlen : l.length ≤ 1048576) (hsz : ∀ f ∈ l, f.1.size ≤ 1048576 ∧ f.2.size ≤ 1048576) (hnil : a = none → cap = 0) (s : ShelfL) (n1 : s.man.segs.length ≤ 1048576) (n2 : s.man.conf.length ≤ 1048576) (n3 : s.dir.length ≤ 1048576) (st : Int) (ch : List ChangeL) (hcl : ch.length ≤ 2097152) (hcs : ∀ c ∈ ch, smallChange 2097152 c)
    (U : ShelfL) (V : List Disks.RawL) (R : Bool) (hA : AddIs l s st ch U V R) (w : World) (hf : FilesAt w a g off l) (hS : ShOwn b s va vc vd w) (hc : ChangeAt w ba bg boff ch) :
    Calls Tryz.prog 14 #[.agg #[.slice a l.length cap], shV s va vc vd, .agg #[.int .i64 st, .slice ba ch.length bc]] w (AddPost w U V R) := by
  by_cases h : Batches.ok st ch ∧ Shelves.Clean l s ∧ s.stamp ≤ st
  · obtain ⟨ho, hC, hst⟩ := h
    obtain ⟨S, hT, hS1, hS2, hFB⟩ := txt_frame ho
    obtain ⟨t, Q, hI, hQ⟩ := after_is l (Shelves.addRaws l s.man (Shelves.frameOf st.toNat ch))
    have hUV : U = (if Q = true then t else Shelves.zeroS) ∧ V = (if Q = true then Shelves.addRaws l s.man (Shelves.frameOf st.toNat ch) else []) ∧ R = Q := by
      rcases hA with ⟨⟨_, _, _, h4⟩, h5, h6⟩ | ⟨h4, h5, h6, h7⟩
      · rcases hQ with ⟨rfl, q⟩ | ⟨rfl, q⟩
        · rw [h4] at q; simp only [Option.some.injEq] at q; subst q; exact ⟨by simp, by simp [h5], h6⟩
        · rw [h4] at q; cases q
      · rcases hQ with ⟨rfl, q⟩ | ⟨rfl, q⟩
        · rcases h4 with h4 | h4
          · exact absurd ⟨ho, hC, hst⟩ h4
          · rw [h4] at q; cases q
        · exact ⟨by simp [h5], by simp [h6], h7⟩
    obtain ⟨rfl, rfl, rfl⟩ := hUV
    cases hbg : Shelves.begins l s.man with
    | false =>
      have e : Shelves.addRaws l s.man (Shelves.frameOf st.toNat ch) = [⟨2, Shelves.segName (Shelves.lastOf s.man), ⟨#[]⟩, frameB S⟩] := by unfold Shelves.addRaws; rw [hbg, hFB]; rfl
      rw [e] at hI ⊢
      exact add9_last l hlen hsz hnil s n1 n2 n3 st ch hcl hcs S hT hS1 hS2 hC hst hbg _ _ rfl t R hI w hf hS hc
    | true =>
      have e : Shelves.addRaws l s.man (Shelves.frameOf st.toNat ch) = Shelves.put1 (Shelves.segName s.man.next) (frameB S) :: Shelves.manRaws (sealedS (Shelves.grown s.man)) := by unfold Shelves.addRaws; rw [hbg, hFB]; rfl
      rw [e] at hI ⊢
      exact add9_new l hlen hsz hnil s n1 n2 n3 st ch hcl hcs S hT hS1 hS2 hC hst hbg _ _ rfl t R hI w hf hS hc
  · rcases hA with ⟨⟨h1, h2, h3, _⟩, _⟩ | ⟨_, rfl, rfl, rfl⟩
    · exact absurd ⟨h1, h2, h3⟩ h
    · exact add9_no l hlen hsz s n1 n2 n3 st ch hcl hcs h w hf hS hc
end Go.Proofs.YtbcfiiilikkkeaaGreatDoor
namespace Go.Proofs.YtbcfiiilikkkeaaGreatDoor
open Go.RowKit
set_option linter.unusedVariables false
set_option linter.unusedSimpArgs false

theorem cloneI_is {a : Option Addr} {g off cap : Nat} (l : List Int) (hs : l.length ≤ 1048576) (w : World) (hA : IntAt w a g off l) :
    Calls Tryz.prog 193 #[.slice a l.length cap] w fun e w' => ∃ v, e = .returned v ∧ w'.ownsRow w.heap.size 3 1 v l.length (cellsI l) ∧ Below w.heap.size w w' := by
  cases a with
  | none =>
    have hl : l = [] := by
      cases l with
      | nil => rfl
      | cons f r => have := hA.1 (by simp); cases this
    subst hl
    exact (Tryz.slices_Clone_int_nil _ _ w).mono fun e w' ⟨h1, h2⟩ => ⟨_, h1, by rw [h2]; exact World.ownsRow_nil _ _ _ _, by rw [h2]; exact Below.refl _ _⟩
  | some ad =>
    by_cases hl : l = []
    · subst hl
      exact (Tryz.slices_Clone_int_zero ad _ w).mono fun e w' ⟨v, h1, h2, _, h3⟩ => ⟨v, h1, h2, h3⟩
    · have hp : 0 < l.length := List.length_pos_iff.2 hl
      have e := hA.1 hp
      cases e
      exact (Tryz.slices_Clone_int g off l.length cap l w (Nat.le_refl _) (by omega) (fun j hj => by rw [hA.2 j hj, List.getD_eq_getElem?_getD, List.getElem?_eq_getElem hj]; rfl)).mono fun e w' ⟨v, h1, h2, _, h3⟩ => ⟨v, h1, by rw [List.take_length] at h2; exact h2, h3⟩
structure BG (w : World) (cs : Array Value) (W : World) : Prop where
  man : W.heap[w.heap.size]? = some (.cells cs 37 (0, 0))
  bel : Below w.heap.size w W
theorem BG.same {w W W' : World} {cs : Array Value} (h : BG w cs W) (hb : Below W.heap.size W W') : BG w cs W' :=
  ⟨(hb.block _ (Array.getElem?_eq_some_iff.1 h.man).1).trans h.man, h.bel.trans (hb.mono h.bel.size)⟩
theorem BG.grow {w W W' : World} {cs : Array Value} {e k n : Nat} {v : Value} {xs : List Value} (h : BG w cs W) (ho : W.ownsRow w.heap.size e k v n xs) (h3 : e ≠ 37) (hg : W.grownBy W' v.ownBlock) : BG w cs W' :=
  ⟨grown_keep' h.man hg (own_not ho h.man h3), h.bel.grown hg h.bel.size (fun k e => (ho.lt k e).1)⟩
theorem BG.set {w W : World} {cs : Array Value} (h : BG w cs W) (j : Nat) (v : Value) : BG w (cs.setIfInBounds j v) (W.setCell ⟨w.heap.size, j, none⟩ v) :=
  ⟨heap_setCell_same W _ j cs 37 v h.man, h.bel.setCell (Nat.le_refl _) _⟩
set_option maxHeartbeats 8000000 in
set_option maxRecDepth 100000 in
theorem implBegin_is {a b : Option Addr} {ga oa ca gb ob cb : Nat} (l l' : List Int) (x y z : Int) (hs : l.length ≤ 1048575) (hc : l'.length ≤ 1048576) (hx0 : 0 ≤ x) (hx1 : x ≤ 1000) (F M : ByteArray) (R : Bool) (hT : TextIs ⟨l ++ [x], x + 1, y, z, l'⟩ M R) (w : World) (hp : Pow w) (hA : IntAt w a ga oa l) (hB : IntAt w b gb ob l') :
    Calls Tryz.prog 144 #[manV ⟨l, x, y, z, l'⟩ a ca b cb, .string F] w fun e w' => ∃ v, e = .returned v ∧ w'.ownsRow w.heap.size 103 4 v 3 (cellsRaw (Shelves.put1 (Shelves.segName x) F :: Shelves.manRaws M)) ∧ Below w.heap.size w w' := by
  obtain ⟨W, hW⟩ : ∃ W, W = w.alloc (Obj.cells #[.slice a l.length ca, .int .i64 x, .int .i64 y, .int .i64 z, .slice b l'.length cb] 37) := ⟨_, rfl⟩
  have hb : Below w.heap.size w W := by rw [hW]; exact (Below.refl _ _).alloc (Nat.le_refl _) _
  have C0 : BG w #[.slice a l.length ca, .int .i64 x, .int .i64 y, .int .i64 z, .slice b l'.length cb] W := ⟨by rw [hW]; exact heap_alloc_new w _, hb⟩
  have HCL : Hid (Calls Tryz.prog 193 #[.slice a l.length ca] W fun e w' => ∃ v, e = .returned v ∧ w'.ownsRow W.heap.size 3 1 v l.length (cellsI l) ∧ Below W.heap.size W w') := cloneI_is l (by omega) W (hA.kept hb)
  have HC0 : Hid (BG w #[.slice a l.length ca, .int .i64 x, .int .i64 y, .int .i64 z, .slice b l'.length cb] W) := C0
  have HIB : Hid (∀ W', Below w.heap.size w W' → IntAt W' b gb ob l') := fun W' h => hB.kept h
  have HPW : Hid (∀ W', Below w.heap.size w W' → Pow W') := fun W' h => hp.below h
  have HTI : Hid (TextIs ⟨l ++ [x], x + 1, y, z, l'⟩ M R) := hT
  have c0 := cell_of_row _ _ 0 _ _ _ C0.man
  have c1 := cell_of_row _ _ 1 _ _ _ C0.man
  simp at c0 c1
  rw [hW] at c0 c1
  unfold manV
  clear hT hA hB hb C0 hp
  go_enter Tryz.func144, Tryz.ntmps144
  go_wp2_with fail
  rw [← hW]
  clear hW c0 c1
  refine Calls.mono HCL.out ?_
  rintro e w1 ⟨v, rfl, ho, hb1⟩
  obtain ⟨va, vc, hv⟩ := own_slice ho
  subst hv
  have C1 := HC0.out.same hb1
  have ho1 := own_mono ho (HC0.out.bel.size)
  obtain ⟨WB, hWB⟩ : ∃ WB, WB = w1.alloc (Obj.cells #[.int .i64 x] 3) := ⟨_, rfl⟩
  have hbB : Below w1.heap.size w1 WB := by rw [hWB]; exact (Below.refl _ _).alloc (Nat.le_refl _) _
  have CB := C1.same hbB
  have OB := own_kept ho1 hbB
  have NB : IntAt WB (some ⟨w1.heap.size, 0, none⟩) w1.heap.size 0 [x] := by
    have q : WB.heap[w1.heap.size]? = some (.cells #[.int .i64 x] 3 (0, 0)) := by rw [hWB]; exact heap_alloc_new w1 _
    refine ⟨fun _ => rfl, fun j hj => ?_⟩
    have hj0 : j = 0 := by simp at hj; omega
    subst hj0
    have := cell_of_row _ _ 0 _ _ _ q
    simpa using this
  have HCB : Hid (BG w #[.slice a l.length ca, .int .i64 x, .int .i64 y, .int .i64 z, .slice b l'.length cb] WB) := CB
  have HOB : Hid (WB.ownsRow w.heap.size 3 1 (.slice va l.length vc) l.length (cellsI l)) := OB
  have hbz := CB.bel.size
  clear ho ho1 hb1 C1 hbB CB HCL HC0
  rw [hWB] at OB NB hbz
  go_wp2_with (at_builtin; refine wpList_appendI rfl _ _ rfl w.heap.size _ _ _ rfl OB (some ⟨w1.heap.size, 0, none⟩) w1.heap.size 0 1 [x] rfl NB (by intro h; cases h) (by simp; omega) hbz ?_)
  rw [← hWB]
  intro v' wC hoC hgC
  obtain ⟨N, hN⟩ : ∃ N, N = l.length + 1 := ⟨_, rfl⟩
  have oC : wC.ownsRow w.heap.size 3 1 v' N (cellsI (l ++ [x])) := by rw [hN]; simpa [cellsI] using hoC
  obtain ⟨na, nc, hv'⟩ := own_slice oC
  subst hv'
  have CC := HCB.out.grow HOB.out (by decide) hgC
  obtain ⟨WD, hWD⟩ : ∃ WD, WD = wC.setCell ⟨w.heap.size, 0, none⟩ (.slice na N nc) := ⟨_, rfl⟩
  have CD : BG w #[.slice na N nc, .int .i64 x, .int .i64 y, .int .i64 z, .slice b l'.length cb] WD := by rw [hWD]; simpa using CC.set 0 (.slice na N nc)
  have oD : WD.ownsRow w.heap.size 3 1 (.slice na N nc) N (cellsI (l ++ [x])) := by rw [hWD]; exact own_set oC _ _ _ (own_not oC CC.man (by decide))
  obtain ⟨WE, hWE⟩ : ∃ WE, WE = WD.setCell ⟨w.heap.size, 1, none⟩ (.int .i64 (x + 1)) := ⟨_, rfl⟩
  have CE : BG w #[.slice na N nc, .int .i64 (x + 1), .int .i64 y, .int .i64 z, .slice b l'.length cb] WE := by rw [hWE]; simpa using CD.set 1 (.int .i64 (x + 1))
  have oE : WE.ownsRow w.heap.size 3 1 (.slice na N nc) N (cellsI (l ++ [x])) := by rw [hWE]; exact own_set oD _ _ _ (own_not oD CD.man (by decide))
  have HNM : Hid (Calls Tryz.prog 194 #[.agg #[.slice na N nc, .int .i64 (x + 1), .int .i64 y, .int .i64 z, .slice b l'.length cb]] WE fun e w' => e = .returned (.tuple #[.string M, .bool R]) ∧ Below WE.heap.size WE w') := by
    have hlN : (l ++ [x]).length = N := by simp [hN]
    obtain ⟨_, g1, _, e1, i1⟩ := cellsI_slice (l := l ++ [x]) (by rw [hlN]; exact oE)
    cases e1
    have := implText_is (ca := nc) (cb := cb) (l ++ [x]) l' (x + 1) y z (by rw [hlN]; omega) hc M R HTI.out WE i1 (HIB.out _ CE.bel)
    unfold manV at this
    rw [hlN] at this
    exact this
  have HCE : Hid (BG w #[.slice na N nc, .int .i64 (x + 1), .int .i64 y, .int .i64 z, .slice b l'.length cb] WE) := CE
  have c0 := cell_of_row _ _ 0 _ _ _ CC.man
  have f0 := frozen_of_row _ _ 0 _ _ CC.man
  have d1 := cell_of_row _ _ 1 _ _ _ CD.man
  have f1 := frozen_of_row _ _ 1 _ _ CD.man
  have b0 := cell_of_row _ _ 0 _ _ _ CE.man
  have b1 := cell_of_row _ _ 1 _ _ _ CE.man
  have b2 := cell_of_row _ _ 2 _ _ _ CE.man
  have b3 := cell_of_row _ _ 3 _ _ _ CE.man
  have b4 := cell_of_row _ _ 4 _ _ _ CE.man
  simp at c0 d1 b0 b1 b2 b3 b4
  clear hoC oC hgC CC CD oD CE oE HCB HOB OB NB hbz hN hWB HTI
  rw [hWE, hWD] at b0 b1 b2 b3 b4
  rw [hWD] at d1 f1
  go_wp2_with fail
  rw [← hWD, ← hWE]
  clear hWD hWE c0 f0 d1 f1 b0 b1 b2 b3 b4
  refine Calls.mono HNM.out ?_
  rintro e wF ⟨rfl, hbF⟩
  have CF := HCE.out.same hbF
  have HCF : Hid (Below w.heap.size w wF) := CF.bel
  have hpF := HPW.out _ CF.bel
  have HSG : Hid (Calls Tryz.prog 118 #[.int .i64 x] wF fun e w' => e = .returned (.string (Shelves.segName x)) ∧ Below wF.heap.size wF w') := implSeg_any x wF hpF
  clear hbF CF HCE HNM hpF
  go_wp2_with fail
  refine Calls.mono HSG.out ?_
  rintro e wG ⟨rfl, hbG⟩
  have HBG : Hid (Below w.heap.size w wG) := HCF.out.trans (hbG.mono HCF.out.size)
  clear hbG
  go_wp2
  go_ret
  have hb2 : Below wG.heap.size wG (wG.alloc (Obj.cells #[.int .i64 1, .string (Shelves.segName x), .string ⟨#[]⟩, .string F, .int .i64 1, .string Shelves.nameNew, .string ⟨#[]⟩, .string M, .int .i64 3, .string Shelves.nameNew, .string Shelves.nameM, .string ⟨#[]⟩] 103)) := (Below.refl _ _).alloc (Nat.le_refl _) _
  exact ⟨_, rfl, World.ownsRow_lit wG #[.int .i64 1, .string (Shelves.segName x), .string ⟨#[]⟩, .string F, .int .i64 1, .string Shelves.nameNew, .string ⟨#[]⟩, .string M, .int .i64 3, .string Shelves.nameNew, .string Shelves.nameM, .string ⟨#[]⟩] 3 HBG.out.size (by decide) rfl, HBG.out.trans (hb2.mono HBG.out.size)⟩
end Go.Proofs.YtbcfiiilikkkeaaGreatDoor
namespace Go.Proofs.YtbcfiiilikkkeaaGreatDoor
open Go.RowKit
set_option linter.unusedVariables false
set_option linter.unusedSimpArgs false

set_option maxHeartbeats 8000000 in
set_option maxRecDepth 100000 in
theorem implAdding_is {a sa ca : Option Addr} {g off cap sg sc cg co cc : Nat} (l : List FileL) (hok : Disks.ok l) (m : ManL) (hm : Mans.ok m) (F M : ByteArray) (hM : M = sealedS (Shelves.grown m)) (V : List Disks.RawL) (hV : V = if Shelves.begins l m = true then Shelves.put1 (Shelves.segName m.next) F :: Shelves.manRaws M else [⟨2, Shelves.segName (Shelves.lastOf m), ⟨#[]⟩, F⟩])
    (w : World) (hp : Pow w) (hf : FilesAt w a g off l) (hA : IntAt w sa sg 0 m.segs) (hB : IntAt w ca cg co m.conf) :
    Calls Tryz.prog 73 #[.agg #[.slice a l.length cap], manV m sa sc ca cc, .string F] w fun e w' => ∃ v, e = .returned v ∧ w'.ownsRow w.heap.size 103 4 v V.length (cellsRaw V) ∧ Below w.heap.size w w' := by
  have hsl : 1 ≤ m.segs.length ∧ m.segs.length ≤ 8 := hm.1
  have hnx := hm.2.1
  have hcl := (Mans.confOk_iff.1 hm.2.2.2.2.2).1.2
  obtain ⟨n, hn⟩ : ∃ n, n = Shelves.lastOf m := ⟨_, rfl⟩
  have HN : Hid (n = Shelves.lastOf m) := hn
  obtain ⟨t2, ht2⟩ : ∃ t2, t2 = Disks.textOf l (Shelves.segName n) := ⟨_, rfl⟩
  have HTA : Hid (Shelves.textAt l n = Batches.by_ t2) := by show _ = _; rw [ht2]; rfl
  have ht20 : t2.size ≤ 20000 := by have := Shelves.text_le hok n; rw [HTA.out, Scan.by_len] at this; exact this
  have hbeg : Shelves.begins l m = true ↔ 500 ≤ t2.size ∧ m.segs.length < 8 ∧ m.next ≤ 999 := by
    rw [Shelves.begins_iff, ← hn, HTA.out, Scan.by_len]
  obtain ⟨⟨LA, LT⟩, LB, hL⟩ : ∃ x : FileL, ∃ y, Disks.look l (Shelves.segName n) = (x, y) := ⟨_, _, rfl⟩
  have hLT : LT = t2 := by have := Disks.look_text l (Shelves.segName n); rw [hL] at this; rw [ht2]; exact this
  subst hLT
  obtain ⟨W, hW⟩ : ∃ W, W = (w.alloc (Obj.cells #[Value.slice a l.length cap] 46)).alloc (Obj.cells #[.slice sa m.segs.length sc, .int .i64 m.next, .int .i64 m.base, .int .i64 m.term, .slice ca m.conf.length cc] 37) := ⟨_, rfl⟩
  have hb : Below w.heap.size w W := by rw [hW]; exact ((Below.refl _ _).alloc (Nat.le_refl _) _).alloc (by simp) _
  have p0 : W.heap[w.heap.size]? = some (.cells #[Value.slice a l.length cap] 46 (0, 0)) := by rw [hW, Below.heap_alloc _ _ _ (by simp)]; exact heap_alloc_new w _
  have p1 : W.heap[w.heap.size + 1]? = some (.cells #[.slice sa m.segs.length sc, .int .i64 m.next, .int .i64 m.base, .int .i64 m.term, .slice ca m.conf.length cc] 37 (0, 0)) := by
    rw [hW]; have := heap_alloc_new (w.alloc (Obj.cells #[Value.slice a l.length cap] 46)) (Obj.cells #[.slice sa m.segs.length sc, .int .i64 m.next, .int .i64 m.base, .int .i64 m.term, .slice ca m.conf.length cc] 37); simpa using this
  have HP0 : Hid (∀ W', Below W.heap.size W W' → W'.heap[w.heap.size]? = some (.cells #[Value.slice a l.length cap] 46 (0, 0))) := fun W' h => (h.block _ (Array.getElem?_eq_some_iff.1 p0).1).trans p0
  have HP1 : Hid (∀ W', Below W.heap.size W W' → W'.heap[w.heap.size + 1]? = some (.cells #[.slice sa m.segs.length sc, .int .i64 m.next, .int .i64 m.base, .int .i64 m.term, .slice ca m.conf.length cc] 37 (0, 0))) := fun W' h => (h.block _ (Array.getElem?_eq_some_iff.1 p1).1).trans p1
  have HB : Hid (Below w.heap.size w W) := hb
  have HSG : Hid (Calls Tryz.prog 118 #[.int .i64 n] W fun e w' => e = .returned (.string (Shelves.segName n)) ∧ Below W.heap.size W w') := implSeg_any n W (hp.below hb)
  have HFA : Hid (∀ W', Below W.heap.size W W' → Calls Tryz.prog 117 #[.agg #[.slice a l.length cap], .string (Shelves.segName n)] W' fun e w' => e = .returned (.tuple #[.string LT, .bool LB]) ∧ Below W'.heap.size W' w') := fun W' h => implFileAt_yes l hok _ (Nat.le_trans (seg_small9 n) (by omega)) LA LT LB hL ht20 W' ((hf.kept hb).kept h)
  have HBE : Hid (Shelves.begins l m = true → ∀ W', Below W.heap.size W W' → Calls Tryz.prog 144 #[.agg #[.slice sa m.segs.length sc, .int .i64 m.next, .int .i64 m.base, .int .i64 m.term, .slice ca m.conf.length cc], .string F] W' fun e w' => ∃ v, e = .returned v ∧ w'.ownsRow W'.heap.size 103 4 v 3 (cellsRaw (Shelves.put1 (Shelves.segName m.next) F :: Shelves.manRaws M)) ∧ Below W'.heap.size W' w') := fun hb' W' h => by
    obtain ⟨_, h2, h3⟩ := hbeg.1 hb'
    have := implBegin_is (ca := sc) (cb := cc) m.segs m.conf m.next m.base m.term (by omega) (by omega) hnx.1 hnx.2 F M true (Or.inl ⟨Shelves.grown_ok hm h2 h3, hM, rfl⟩) W' ((hp.below hb).below h) ((hA.kept hb).kept h) ((hB.kept hb).kept h)
    unfold manV at this
    exact this
  have ea := hA.1 (by omega)
  subst ea
  have c3 := (hA.kept hb).2 (m.segs.length - 1) (by omega)
  rw [Shelves.last_at (by omega) (by omega), Nat.zero_add, ← hn] at c3
  have k0 := cell_of_row _ _ 0 _ _ _ p1
  simp at k0
  rw [hW] at c3 k0
  obtain ⟨G, hG⟩ : ∃ G, G = Shelves.begins l m := ⟨_, rfl⟩
  have hd : (G = true ∧ 500 ≤ LT.size ∧ m.segs.length < 8 ∧ m.next ≤ 999) ∨ (G = false ∧ (LT.size < 500 ∨ (500 ≤ LT.size ∧ ¬ m.segs.length < 8) ∨ (500 ≤ LT.size ∧ m.segs.length < 8 ∧ ¬ m.next ≤ 999))) := by
    rw [← hG] at hbeg
    cases G with
    | true => exact Or.inl ⟨rfl, hbeg.1 rfl⟩
    | false => exact Or.inr ⟨rfl, by have : ¬ (500 ≤ LT.size ∧ m.segs.length < 8 ∧ m.next ≤ 999) := fun h => by simpa using hbeg.2 h
                                     omega⟩
  rw [← hG] at hV HBE
  rw [← hn] at hV
  unfold manV
  clear hok hm hM hp hf hA hB hb p0 p1 hL HTA ht2 hbeg hG hn HN
  go_enter Tryz.func73, Tryz.ntmps73
  go_wp2_with fail
  rw [← hW]
  clear hW c3 k0
  refine Calls.mono HSG.out ?_
  rintro e w1 ⟨rfl, hb1⟩
  have HB1 : Hid (Below W.heap.size W w1) := hb1
  have k0 := cell_of_row _ _ 0 _ _ _ (HP0.out _ hb1)
  simp at k0
  clear hb1 HSG
  go_wp2_with fail
  clear k0
  refine Calls.mono (HFA.out _ HB1.out) ?_
  rintro e w2 ⟨rfl, hb2⟩
  have HB2 : Hid (Below W.heap.size W w2) := HB1.out.trans (hb2.mono HB1.out.size)
  have HW2 : Hid (Below w.heap.size w w2) := HB.out.trans (HB2.out.mono HB.out.size)
  have q := HP1.out _ HB2.out
  have b0 := cell_of_row _ _ 0 _ _ _ q
  have b1 := cell_of_row _ _ 1 _ _ _ q
  have b2 := cell_of_row _ _ 2 _ _ _ q
  have b3 := cell_of_row _ _ 3 _ _ _ q
  have b4 := cell_of_row _ _ 4 _ _ _ q
  simp at b0 b1 b2 b3 b4
  clear hb2 q HFA HP0 HP1 HB1
  rcases hd with ⟨rfl, q1, q2, q3⟩ | ⟨rfl, hd⟩
  · have r1 : (500 : Int) ≤ (LT.size : Int) := by omega
    have r2 : (m.segs.length : Int) < 8 := by omega
    have HBE2 : Hid _ := HBE.out rfl _ HB2.out
    have HV : Hid (V = Shelves.put1 (Shelves.segName m.next) F :: Shelves.manRaws M) := hV
    clear HBE hV
    go_wp2_with fail
    clear b0 b1 b2 b3 b4
    refine Calls.mono HBE2.out ?_
    rintro e w3 ⟨v, rfl, ho, hb3⟩
    obtain ⟨xa, xc, hv⟩ := own_slice ho
    subst hv
    have HFin : Hid (w3.ownsRow w.heap.size 103 4 (.slice xa 3 xc) V.length (cellsRaw V)) := by rw [HV.out]; exact own_mono ho HW2.out.size
    have HB3 : Hid (Below w.heap.size w w3) := HW2.out.trans (hb3.mono HW2.out.size)
    clear ho hb3
    go_wp2
    go_ret
    exact ⟨_, rfl, HFin.out, HB3.out⟩
  · have HV : Hid (V = [⟨2, Shelves.segName n, ⟨#[]⟩, F⟩]) := hV
    clear HBE hV
    rcases hd with q1 | ⟨q1, q2⟩ | ⟨q1, q2, q3⟩
    all_goals
      try (have r1 : ¬ (500 : Int) ≤ (LT.size : Int) := by omega)
      try (have r1 : (500 : Int) ≤ (LT.size : Int) := by omega)
      try (have r2 : ¬ (m.segs.length : Int) < 8 := by omega)
      try (have r2 : (m.segs.length : Int) < 8 := by omega)
      go_wp2
      go_ret
      have hb3 : Below w2.heap.size w2 (w2.alloc (Obj.cells #[.int .i64 2, .string (Shelves.segName n), .string ⟨#[]⟩, .string F] 103)) := (Below.refl _ _).alloc (Nat.le_refl _) _
      refine ⟨_, rfl, ?_, HW2.out.trans (hb3.mono HW2.out.size)⟩
      rw [HV.out]
      exact World.ownsRow_lit w2 #[.int .i64 2, .string (Shelves.segName n), .string ⟨#[]⟩, .string F] 1 HW2.out.size (by decide) rfl
end Go.Proofs.YtbcfiiilikkkeaaGreatDoor
namespace Go.Proofs.YtbcfiiilikkkeaaGreatDoor
open Go.RowKit
set_option linter.unusedVariables false
set_option linter.unusedSimpArgs false

set_option maxHeartbeats 8000000 in
set_option maxRecDepth 100000 in
theorem eqSpots_is {a b : Option Addr} {g off cap h oh cap' : Nat} (d d' : List SpotL) (n1 : d.length ≤ 1048576) (n2 : d'.length ≤ 1048576) (R : Bool) (hR : R = true ↔ d = d') (w : World) (hA : SpotAt w a g off d) (hB : SpotAt w b h oh d') :
    Calls Tryz.prog 178 #[.slice a d.length cap, .slice b d'.length cap'] w fun e w' => e = .returned (.bool R) ∧ Below w.heap.size w w' := by
  have HR : Hid (R = true ↔ d = d') := hR
  have HD : Hid (∀ W1, Below w.heap.size w W1 → SpotAt W1 a g off d ∧ SpotAt W1 b h oh d') := fun W1 q => ⟨hA.kept q, hB.kept q⟩
  clear hR hA hB
  go_enter Tryz.func178, Tryz.ntmps178
  by_cases kd : d.length = d'.length
  · have hcd : ((d.length : Int) != (d'.length : Int)) = false := by simp; omega
    go_wp2
    go_loopw [13] (fun i wr => ∃ k : Nat, k ≤ d.length ∧ i = .int .i64 (k : Int) ∧ (∀ j (h1 : j < d.length) (h2 : j < d'.length), j < k → d[j] = d'[j]) ∧ Below w.heap.size w wr)
      (fun i _ => d.length - (intOf i).toNat)
    case atStart => exact ⟨0, Nat.zero_le _, rfl, fun j _ _ q => absurd q (Nat.not_lt_zero _), Below.refl _ _⟩
    case round =>
      obtain ⟨k, hk, rfl, hsm, hbel⟩ := hrel
      have HSM : Hid (∀ j (h1 : j < d.length) (h2 : j < d'.length), j < k → d[j] = d'[j]) := hsm
      have HBL : Hid (Below w.heap.size w wr) := hbel
      clear hsm
      by_cases hlt : k < d.length
      · have hltm : k < d'.length := by omega
        obtain ⟨a0, a1, a2, a3⟩ := (HD.out _ hbel).1.2 k hlt
        obtain ⟨b0, b1, b2, b3⟩ := (HD.out _ hbel).2.2 k hltm
        have ea := (HD.out _ hbel).1.1 (by omega)
        have eb := (HD.out _ hbel).2.1 (by omega)
        subst ea eb
        obtain ⟨X, hX⟩ : ∃ X, X = d[k] := ⟨_, rfl⟩
        obtain ⟨Y, hY⟩ : ∃ Y, Y = d'[k] := ⟨_, rfl⟩
        rw [← hX] at a0 a1 a2 a3
        rw [← hY] at b0 b1 b2 b3
        have HX : Hid (X = d[k]) := hX
        have HY : Hid (Y = d'[k]) := hY
        clear hX hY hbel
        have hk0 : (0 : Int) ≤ (k : Int) := by omega
        have hk1 : (k : Int) < (d.length : Int) := by omega
        have hk2 : (k : Int) < (d'.length : Int) := by omega
        by_cases hxy : X = Y
        · have HXY : Hid (X = Y) := hxy
          rw [← hxy] at b0 b1 b2 b3
          clear hxy
          have hkey : (X.key.toList == X.key.toList) = true := by simp
          go_wp2
          have NE := Abv.ne wr
          have A0 := fun x : Abv wr => x.cell a0
          have A1 := fun x : Abv wr => x.cell a1
          have A2 := fun x : Abv wr => x.cell a2
          have A3 := fun x : Abv wr => x.cell a3
          have B0 := fun x : Abv wr => x.cell b0
          have B1 := fun x : Abv wr => x.cell b1
          have B2 := fun x : Abv wr => x.cell b2
          have B3 := fun x : Abv wr => x.cell b3
          refine wp_region_above (by kernel_rfl) (by kernel_rfl) ?_
          repeat (go_big_quiet_step (fail))
          refine wpQuiet_nil ?_
          rintro w1 ⟨⟨_, hb1⟩, rfl⟩
          clear NE A0 A1 A2 A3 B0 B1 B2 B3
          go_wp2
          go_roundw
          case rel =>
            refine ⟨k + 1, by omega, by go_num, fun j h1 h2 q => ?_, HBL.out.trans (hb1.mono HBL.out.size)⟩
            by_cases e : j = k
            · subst e; rw [← HX.out, ← HY.out]; exact HXY.out
            · exact HSM.out j h1 h2 (by omega)
          case measure => simp [intOf]; omega
        · have hRf : R = false := ans_no HR.out fun e => hxy (by rw [HX.out, HY.out]; cases e; rfl)
          subst hRf
          have hcases := spot_ne hxy
          clear hxy
          rcases hcases with r0 | ⟨r0, r1 | ⟨r1, r2 | ⟨r2, r3⟩⟩⟩
          all_goals
            try (have s0 := toList_ne r0)
            try (have s0 : (X.key.toList == Y.key.toList) = true := by rw [r0]; simp)
            try (have s1 : (X.seg == Y.seg) = false := beq_eq_false_iff_ne.2 r1)
            try (have s1 : (X.seg == Y.seg) = true := beq_iff_eq.2 r1)
            try (have s2 : (X.pos == Y.pos) = false := beq_eq_false_iff_ne.2 r2)
            try (have s2 : (X.pos == Y.pos) = true := beq_iff_eq.2 r2)
            try (have s3 : (X.size == Y.size) = false := beq_eq_false_iff_ne.2 r3)
            try clear r0
            try clear r1
            try clear r2
            try clear r3
            go_wp2
            have NE := Abv.ne wr
            have A0 := fun x : Abv wr => x.cell a0
            have A1 := fun x : Abv wr => x.cell a1
            have A2 := fun x : Abv wr => x.cell a2
            have A3 := fun x : Abv wr => x.cell a3
            have B0 := fun x : Abv wr => x.cell b0
            have B1 := fun x : Abv wr => x.cell b1
            have B2 := fun x : Abv wr => x.cell b2
            have B3 := fun x : Abv wr => x.cell b3
            refine wp_region_above (by kernel_rfl) (by kernel_rfl) ?_
            repeat (go_big_quiet_step (fail))
            refine wpQuiet_nil ?_
            rintro w1 ⟨⟨_, hb1⟩, rfl⟩
            clear NE A0 A1 A2 A3 B0 B1 B2 B3
            go_wp2
            go_ret
            exact ⟨rfl, HBL.out.trans (hb1.mono HBL.out.size)⟩
      · have hRt : R = true := HR.out.2 (List.ext_getElem kd fun j h1 h2 => HSM.out j h1 h2 (by omega))
        subst hRt
        have hk1 : ¬ (k : Int) < (d.length : Int) := by omega
        clear hbel
        go_wp2
        go_ret
        exact ⟨rfl, HBL.out⟩
  · have hRf : R = false := ans_no HR.out fun e => kd (by cases e; rfl)
    subst hRf
    have hcd : ((d.length : Int) != (d'.length : Int)) = true := by simp; omega
    go_wp2
    go_ret
    exact ⟨rfl, Below.refl _ _⟩
end Go.Proofs.YtbcfiiilikkkeaaGreatDoor
