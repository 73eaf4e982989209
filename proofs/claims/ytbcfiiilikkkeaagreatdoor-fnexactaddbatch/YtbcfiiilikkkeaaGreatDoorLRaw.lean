/- Rows of raw writes in memory: four cells each; the call of the specification's PutRaws, walked. Lists of raw writes in memory, 4 cells each; measured, copied, held against each other, marked. Made by program. -/
import Derived.Test.YtbcfiiilikkkeaaGreatDoorKeep
import Derived.Test.YtbcfiiilikkkeaaGreatDoorMathAt
import Derived.Deep.DeepCutAuto
import Derived.Test.YtbcfiiilikkkeaaGreatDoorLChange
import Derived.Test.YtbcfiiilikkkeaaGreatDoorPutRaw
import Derived.Test.YtbcfiiilikkkeaaGreatDoorProg
import Derived.WalkKit
import Derived.WalkSpells
import Derived.WalkLawsBesides
import Derived.Laws.IdiomStrings
import Derived.Laws.BytesArg
import Derived.Laws.BitsAllLaws
import Derived.BigQuiet
import Derived.Laws.AppendOwnNone
import Derived.Deep.RegionHeld3
namespace Go.Proofs.YtbcfiiilikkkeaaGreatDoor
open Go.RowKit

/-- A slice at a whose elements are these raw writes. -/
def RawsAt (w : World) (a : Option Addr) (g off : Nat) (l : List Disks.RawL) : Prop :=
  (0 < l.length → a = some ⟨g, off, none⟩) ∧ ∀ j (hj : j < l.length), w.cell? ⟨g, off + j * 4, none⟩ = some (.int .i64 l[j].kind) ∧ w.cell? ⟨g, off + j * 4 + 1, none⟩ = some (.string l[j].name) ∧ w.cell? ⟨g, off + j * 4 + 2, none⟩ = some (.string l[j].to) ∧ w.cell? ⟨g, off + j * 4 + 3, none⟩ = some (.string l[j].text)
theorem RawsAt.lt {w : World} {a : Option Addr} {g off : Nat} {l : List Disks.RawL} (h : RawsAt w a g off l) (hl : 0 < l.length) : g < w.heap.size := World.block_lt_of_cell? w _ (h.2 0 hl).1
theorem RawsAt.kept {w w' : World} {a : Option Addr} {g off : Nat} {l : List Disks.RawL} (h : RawsAt w a g off l) (hb : Below w.heap.size w w') : RawsAt w' a g off l := by
  refine ⟨h.1, fun j hj => ?_⟩
  have hg := h.lt (by omega)
  rw [hb.cell (p := ⟨g, off + j * 4, none⟩) hg, hb.cell (p := ⟨g, off + j * 4 + 1, none⟩) hg, hb.cell (p := ⟨g, off + j * 4 + 2, none⟩) hg, hb.cell (p := ⟨g, off + j * 4 + 3, none⟩) hg]
  exact h.2 j hj
theorem LawSt.drop1 {w W : World} {p : Nat × Obj} {bs : List (Nat × Obj)} {rows : List (Value × List FileL)} (h : LawSt w (p :: bs) rows W) : LawSt w bs rows W :=
  ⟨h.below, fun q hq => h.has q (List.mem_cons_of_mem _ hq), h.own, fun q hq => h.sep q (List.mem_cons_of_mem _ hq), h.apart, (List.pairwise_cons.1 h.dist).2, fun q hq => h.up q (List.mem_cons_of_mem _ hq)⟩
/-- The second variable is set. -/
theorem LawSt.set2 {w W : World} {p : Nat × Obj} {bs : List (Nat × Obj)} {rows : List (Value × List FileL)} {b : Nat} {x : Value} {t : TypeId} (h : LawSt w (p :: (b, Obj.cells #[x] t (0, 0)) :: bs) rows W) (v : Value) : LawSt w ((b, .cells #[v] t (0, 0)) :: bs) rows (W.setCell ⟨b, 0, none⟩ v) := h.drop1.set v

theorem own_nil {w : World} {base : Nat} {t : TypeId} {sz : Nat} {a : Option Addr} {n m c : Nat} {xs : List Value} (h : w.ownsRow base t sz (.slice a n c) m xs) : a = none → c = 0 := by
  intro ha
  rcases h.2 with ⟨h1, _⟩ | ⟨g, cap, cur, h1, _⟩
  · cases h1; rfl
  · cases h1; cases ha
/-- What PutRaws answers with. -/
def rawsPost (w : World) (o : List FileL) (n : Nat) (e : Ending) (w' : World) : Prop :=
  ∃ v : Value, e = .returned (.tuple #[.agg #[v], .int .i64 (n : Int)]) ∧ w'.ownsRow w.heap.size 164 2 v o.length (cellsF o) ∧ Below w.heap.size w w'

set_option maxHeartbeats 8000000 in
set_option maxRecDepth 100000 in
theorem specPutRaws_yes {a ra : Option Addr} {g off cap rg roff rcap : Nat} (l : List FileL) (rs : List Disks.RawL) (hok : Disks.ok l) (hrs : rs.length ≤ 60) (hnil : a = none → cap = 0) (hr : ∀ r ∈ rs, r.name.size ≤ 1048576 ∧ r.to.size ≤ 1048576 ∧ r.text.size ≤ 1048576) (w : World) (hf : FilesAt w a g off l) (hrf : RawsAt w ra rg roff rs) :
    Calls Tryz.prog 32 #[.agg #[.slice a l.length cap], .slice ra rs.length rcap] w (rawsPost w (Disks.run l rs).1 (Disks.run l rs).2) := by
  have HF : Hid (FilesAt w a g off l) := hf
  have HRF : Hid (RawsAt w ra rg roff rs) := hrf
  have HOK : Hid (Disks.ok l) := hok
  have HNIL : Hid (a = none → cap = 0) := hnil
  have HR : Hid (∀ r ∈ rs, r.name.size ≤ 1048576 ∧ r.to.size ≤ 1048576 ∧ r.text.size ≤ 1048576) := hr
  have h30 := hok.1
  have HSZ : Hid (∀ f ∈ l, f.1.size ≤ 12 ∧ f.2.size ≤ 20000) := ok_sizes hok
  have h60 : ¬ (60 : Int) < (rs.length : Int) := by omega
  have HST0 : Hid (LawSt w [(w.heap.size + 1, .cells #[.slice none 0 0] 46), (w.heap.size, .cells #[.slice a l.length cap] 46)] [] ((w.alloc (.cells #[.slice a l.length cap] 46)).alloc (.cells #[.slice none 0 0] 46))) := LawSt.start w _ _
  clear hf hrf hok hnil hr
  go_enter Tryz.func32, Tryz.ntmps32
  go_wp2_with fail
  refine (specDiskOk_any true l (by omega) _ (HF.out.kept HST0.out.below) (fun f h => by have := HSZ.out f h; omega) ⟨fun _ => HOK.out, fun _ => rfl⟩).mono ?_
  rintro e w2 ⟨rfl, hb2⟩
  have hst := HST0.out.step hb2
  have HST2 : Hid (LawSt w _ _ w2) := hst
  have hd2 := hst.cell (b := w.heap.size) (x := .slice a l.length cap) (t := 46) (by simp)
  have hdA : (w2.alloc (.cells #[] 164)).cell? ⟨w.heap.size, 0, none⟩ = some (.slice a l.length cap) := (World.cell?_alloc_lt w2 _ _ (World.block_lt_of_cell? w2 _ hd2)).trans hd2
  have hbs : w2.heap.size ≤ (w2.alloc (.cells #[] 164)).heap.size := by simp
  clear hst hb2 HST0
  go_wp2_with (at_builtin; refine wpList_append_files rfl _ _ rfl w2.heap.size (.slice (some ⟨w2.heap.size, 0, none⟩) 0 0) 0 [] rfl (World.ownsRow_made w2 #[] 0 (Nat.le_refl _) (by unfold maxLen; omega) rfl) a g off cap l rfl ((HF.out.kept HST2.out.below).kept ((Below.refl _ _).alloc (Nat.le_refl _) _)) HNIL.out (by omega) hbs ?_)
  intro v3 w3 hown3 hgrow3
  have hb3 : Below w2.heap.size w2 w3 := ((Below.refl _ _).alloc (Nat.le_refl _) _).grown hgrow3 (by simp) (fun j hj => by cases hj; exact Nat.le_refl _)
  obtain ⟨va, vc, rfl⟩ := own_slice hown3
  have HVN : Hid (va = none → vc = 0) := own_nil hown3
  have hst := (HST2.out.call hb3 hown3).alloc (.cells #[.slice va l.length vc] 46)
  have HST3 : Hid (LawSt w _ _ _) := hst
  clear hst hown3 hgrow3 hb3 hd2 hdA hbs HST2
  go_wp2
  go_loopw [7] (fun i wr => ∃ (k : Nat) (cur : List FileL) (va : Option Addr) (vc : Nat), k ≤ rs.length ∧ i = .int .i64 (k : Int) ∧ Disks.ok cur ∧ (va = none → vc = 0) ∧ Disks.run l rs = ((Disks.run cur (rs.drop k)).1, k + (Disks.run cur (rs.drop k)).2) ∧
      LawSt w [(w3.heap.size, .cells #[.slice va cur.length vc] 46), (w.heap.size + 1, .cells #[.slice none 0 0] 46), (w.heap.size, .cells #[.slice a l.length cap] 46)] [(.slice va cur.length vc, cur)] wr)
    (fun i _ => rs.length - (intOf i).toNat)
  case atStart =>
    exact ⟨0, l, va, vc, Nat.zero_le _, rfl, HOK.out, HVN.out, by simp, HST3.out⟩
  case round =>
    obtain ⟨k, cur, ca, cc, hk, rfl, hcok, hcnil, hrun, hst⟩ := hrel
    have HSTK : Hid (LawSt w _ _ wr) := hst
    have HCOK : Hid (Disks.ok cur) := hcok
    have HCNIL : Hid (ca = none → cc = 0) := hcnil
    have HRN : Hid (Disks.run l rs = ((Disks.run cur (rs.drop k)).1, k + (Disks.run cur (rs.drop k)).2)) := hrun
    have hnow := hst.cell (b := w3.heap.size) (x := .slice ca cur.length cc) (t := 46) (by simp)
    have hc30 := hcok.1
    clear hst hcok hcnil hrun HST3
    by_cases hlt : k < rs.length
    · have ea := HRF.out.1 (by omega)
      subst ea
      obtain ⟨Q, hQ⟩ : ∃ Q, Q = rs[k] := ⟨_, rfl⟩
      have hQr := HR.out rs[k] (List.getElem_mem _)
      rw [← hQ] at hQr
      have HDR : Hid (rs.drop k = Q :: rs.drop (k + 1)) := by show _ = _; rw [hQ]; exact List.drop_eq_getElem_cons hlt
      have HQ : Hid (Q = rs[k]) := hQ
      clear hQ
      obtain ⟨K, N, O, X⟩ := Q
      have HRC : Hid (∀ wx : World, Below w.heap.size w wx → wx.cell? ⟨rg, roff + k * 4, none⟩ = some (.int .i64 K) ∧ wx.cell? ⟨rg, roff + k * 4 + 1, none⟩ = some (.string N) ∧ wx.cell? ⟨rg, roff + k * 4 + 2, none⟩ = some (.string O) ∧ wx.cell? ⟨rg, roff + k * 4 + 3, none⟩ = some (.string X)) := fun wx h => by
        have := (HRF.out.kept h).2 k hlt
        rw [← HQ.out] at this
        exact this
      obtain ⟨e0, e1, e2, e3⟩ := HRC.out wr HSTK.out.below
      have hk0 : (0 : Int) ≤ (k : Int) := by omega
      have hk1 : (k : Int) < (rs.length : Int) := by omega
      cases hput : Disks.putRaw cur ⟨K, N, O, X⟩ with
      | none =>
        obtain ⟨L, hL⟩ : ∃ L : List FileL, L = [] := ⟨_, rfl⟩
        have HPUT : Hid (∀ (wx : World) (gx : Nat), FilesAt wx ca gx 0 cur → Calls Tryz.prog 97 #[.agg #[.slice ca cur.length cc], .agg #[.int .i64 K, .string N, .string O, .string X]] wx fun e w' => ∃ v : Value, e = .returned (.tuple #[.agg #[v], .bool false]) ∧ w'.ownsRow wx.heap.size 164 2 v L.length (cellsF L) ∧ Below wx.heap.size wx w') := fun wx gx h => by
          have := specPutRaw_is cur (by omega) (fun f hf => by have := ok_sizes HCOK.out f hf; omega) ⟨K, N, O, X⟩ HCNIL.out hQr wx h
          rw [hput] at this
          rw [hL]
          exact this
        have HRUN : Hid (Disks.run l rs = (cur, k)) := by show _ = _; rw [HRN.out, HDR.out, Disks.run_none hput]; rfl
        clear hput hL HRN HDR
        go_wp2
        go_region_held3 (fun w' => w'.cell? ⟨w3.heap.size, 0, none⟩ = some (.slice ca cur.length cc) ∧ w'.cell? ⟨rg, roff + k * 4, none⟩ = some (.int .i64 K) ∧ w'.cell? ⟨rg, roff + k * 4 + 1, none⟩ = some (.string N) ∧ w'.cell? ⟨rg, roff + k * 4 + 2, none⟩ = some (.string O) ∧ w'.cell? ⟨rg, roff + k * 4 + 3, none⟩ = some (.string X)) (first | go_keep | exact ⟨hstP.cell (b := w3.heap.size) (x := .slice ca cur.length cc) (t := 46) (by simp), HRC.out _ hstP.below⟩ | exact ⟨(hstP.alloc _).cell (b := w3.heap.size) (x := .slice ca cur.length cc) (t := 46) (by simp), HRC.out _ (hstP.alloc _).below⟩ | exact ⟨(hstP.set _).cell (b := w3.heap.size) (x := .slice ca cur.length cc) (t := 46) (by simp), HRC.out _ (hstP.set _).below⟩ | exact ⟨(HSTK.out.drew.alloc _).cell (b := w3.heap.size) (x := .slice ca cur.length cc) (t := 46) (by simp), HRC.out _ (HSTK.out.drew.alloc _).below⟩) (first | (go_at_call 97; obtain ⟨gF, hfF⟩ := LawSt.files (a := ca) (n := cur.length) (c := cc) (l := cur) HSTK.out.drew rfl (by simp); refine (HPUT.out _ _ hfF).mono ?_; rintro e wP ⟨v6, rfl, hown6, hbP⟩; obtain ⟨av, cv, rfl⟩ := own_slice hown6; have hstP := HSTK.out.drew.call hbP hown6; have HNI : Hid (av = none → cv = 0) := own_nil hown6; first | (have hc6 := hstP.cell (b := wr.heap.size) (x := .slice none 0 0) (t := 46) (List.Mem.head _); have hz6 := hstP.frozen (b := wr.heap.size) (x := .slice none 0 0) (t := 46) (List.Mem.head _)) | skip) | (go_at_call 97; obtain ⟨gF, hfF⟩ := LawSt.files (a := ca) (n := cur.length) (c := cc) (l := cur) (HSTK.out.drew.alloc _) rfl (by simp); refine (HPUT.out _ _ hfF).mono ?_; rintro e wP ⟨v6, rfl, hown6, hbP⟩; obtain ⟨av, cv, rfl⟩ := own_slice hown6; have hstP := (HSTK.out.drew.alloc _).call hbP hown6; have HNI : Hid (av = none → cv = 0) := own_nil hown6; first | (have hc6 := hstP.cell (b := wr.heap.size) (x := .slice none 0 0) (t := 46) (List.Mem.head _); have hz6 := hstP.frozen (b := wr.heap.size) (x := .slice none 0 0) (t := 46) (List.Mem.head _)) | skip))
        all_goals first | (have hpin := hc6; have hstQ : LawSt w ((wr.heap.size, .cells #[.slice av L.length cv] 46) :: _) _ (wP.setCell ⟨wr.heap.size, 0, none⟩ (.slice av L.length cv)) := hstP.set (.slice av L.length cv); have x8 := hstQ.cell (b := wr.heap.size) (x := .slice av L.length cv) (t := 46) (List.Mem.head _); have x6 := hstQ.cell (b := w3.heap.size) (x := .slice ca cur.length cc) (t := 46) (by simp); have x6f := hstQ.frozen (b := w3.heap.size) (x := .slice ca cur.length cc) (t := 46) (by simp); have xr := hstQ.cell (b := w.heap.size + 1) (x := .slice none 0 0) (t := 46) (by simp); have xrf := hstQ.frozen (b := w.heap.size + 1) (x := .slice none 0 0) (t := 46) (by simp); have hres := World.cell?_setCell_same _ _ (.slice ca cur.length cc) xr; go_wp2; refine bodyPost_ret (v := .tuple #[.agg #[.slice ca cur.length cc], .int .i64 (k : Int)]) (by simp [results, Tryz.results32, go_sem, hres]) rfl ⟨_, by rw [HRUN.out], by rw [HRUN.out]; exact (hstQ.tail).drop1.drop1.set _ |>.own _ (List.Mem.head _), (hstQ.drop1.drop1.set _).below⟩) | (have hstQ := hstP.alloc (.cells #[.slice av L.length cv] 46); have x8 := hstQ.cell (b := wP.heap.size) (x := .slice av L.length cv) (t := 46) (List.Mem.head _); have x6 := hstQ.cell (b := w3.heap.size) (x := .slice ca cur.length cc) (t := 46) (by simp); have x6f := hstQ.frozen (b := w3.heap.size) (x := .slice ca cur.length cc) (t := 46) (by simp); have xr := hstQ.cell (b := w.heap.size + 1) (x := .slice none 0 0) (t := 46) (by simp); have xrf := hstQ.frozen (b := w.heap.size + 1) (x := .slice none 0 0) (t := 46) (by simp); have hres := World.cell?_setCell_same _ _ (.slice ca cur.length cc) xr; go_wp2; refine bodyPost_ret (v := .tuple #[.agg #[.slice ca cur.length cc], .int .i64 (k : Int)]) (by simp [results, Tryz.results32, go_sem, hres]) rfl ⟨_, by rw [HRUN.out], by rw [HRUN.out]; exact (hstQ.tail).drop1.drop1.set _ |>.own _ (List.Mem.head _), (hstQ.drop1.drop1.set _).below⟩)
      | some L =>
        have HPUT : Hid (∀ (wx : World) (gx : Nat), FilesAt wx ca gx 0 cur → Calls Tryz.prog 97 #[.agg #[.slice ca cur.length cc], .agg #[.int .i64 K, .string N, .string O, .string X]] wx fun e w' => ∃ v : Value, e = .returned (.tuple #[.agg #[v], .bool true]) ∧ w'.ownsRow wx.heap.size 164 2 v L.length (cellsF L) ∧ Below wx.heap.size wx w') := fun wx gx h => by
          have := specPutRaw_is cur (by omega) (fun f hf => by have := ok_sizes HCOK.out f hf; omega) ⟨K, N, O, X⟩ HCNIL.out hQr wx h
          rw [hput] at this
          exact this
        have HLOK : Hid (Disks.ok L) := Disks.put_ok hput
        have HRUN : Hid (Disks.run l rs = ((Disks.run L (rs.drop (k + 1))).1, k + 1 + (Disks.run L (rs.drop (k + 1))).2)) := by
          show _ = _
          rw [HRN.out, HDR.out, Disks.run_some hput]
          simp only [Prod.mk.injEq, true_and]
          omega
        clear hput HRN HDR
        go_wp2
        go_region_held3 (fun w' => w'.cell? ⟨w3.heap.size, 0, none⟩ = some (.slice ca cur.length cc) ∧ w'.cell? ⟨rg, roff + k * 4, none⟩ = some (.int .i64 K) ∧ w'.cell? ⟨rg, roff + k * 4 + 1, none⟩ = some (.string N) ∧ w'.cell? ⟨rg, roff + k * 4 + 2, none⟩ = some (.string O) ∧ w'.cell? ⟨rg, roff + k * 4 + 3, none⟩ = some (.string X)) (first | go_keep | exact ⟨hstP.cell (b := w3.heap.size) (x := .slice ca cur.length cc) (t := 46) (by simp), HRC.out _ hstP.below⟩ | exact ⟨(hstP.alloc _).cell (b := w3.heap.size) (x := .slice ca cur.length cc) (t := 46) (by simp), HRC.out _ (hstP.alloc _).below⟩ | exact ⟨(hstP.set _).cell (b := w3.heap.size) (x := .slice ca cur.length cc) (t := 46) (by simp), HRC.out _ (hstP.set _).below⟩ | exact ⟨(HSTK.out.drew.alloc _).cell (b := w3.heap.size) (x := .slice ca cur.length cc) (t := 46) (by simp), HRC.out _ (HSTK.out.drew.alloc _).below⟩) (first | (go_at_call 97; obtain ⟨gF, hfF⟩ := LawSt.files (a := ca) (n := cur.length) (c := cc) (l := cur) HSTK.out.drew rfl (by simp); refine (HPUT.out _ _ hfF).mono ?_; rintro e wP ⟨v6, rfl, hown6, hbP⟩; obtain ⟨av, cv, rfl⟩ := own_slice hown6; have hstP := HSTK.out.drew.call hbP hown6; have HNI : Hid (av = none → cv = 0) := own_nil hown6; first | (have hc6 := hstP.cell (b := wr.heap.size) (x := .slice none 0 0) (t := 46) (List.Mem.head _); have hz6 := hstP.frozen (b := wr.heap.size) (x := .slice none 0 0) (t := 46) (List.Mem.head _)) | skip) | (go_at_call 97; obtain ⟨gF, hfF⟩ := LawSt.files (a := ca) (n := cur.length) (c := cc) (l := cur) (HSTK.out.drew.alloc _) rfl (by simp); refine (HPUT.out _ _ hfF).mono ?_; rintro e wP ⟨v6, rfl, hown6, hbP⟩; obtain ⟨av, cv, rfl⟩ := own_slice hown6; have hstP := (HSTK.out.drew.alloc _).call hbP hown6; have HNI : Hid (av = none → cv = 0) := own_nil hown6; first | (have hc6 := hstP.cell (b := wr.heap.size) (x := .slice none 0 0) (t := 46) (List.Mem.head _); have hz6 := hstP.frozen (b := wr.heap.size) (x := .slice none 0 0) (t := 46) (List.Mem.head _)) | skip))
        all_goals first | (have hpin := hc6; have hstQ : LawSt w ((wr.heap.size, .cells #[.slice av L.length cv] 46) :: _) _ (wP.setCell ⟨wr.heap.size, 0, none⟩ (.slice av L.length cv)) := hstP.set (.slice av L.length cv); have x8 := hstQ.cell (b := wr.heap.size) (x := .slice av L.length cv) (t := 46) (List.Mem.head _); have x6 := hstQ.cell (b := w3.heap.size) (x := .slice ca cur.length cc) (t := 46) (by simp); have x6f := hstQ.frozen (b := w3.heap.size) (x := .slice ca cur.length cc) (t := 46) (by simp); have xr := hstQ.cell (b := w.heap.size + 1) (x := .slice none 0 0) (t := 46) (by simp); have xrf := hstQ.frozen (b := w.heap.size + 1) (x := .slice none 0 0) (t := 46) (by simp); go_wp2; go_roundw; (case rel => exact ⟨k + 1, L, av, cv, by omega, by go_num, HLOK.out, HNI.out, HRUN.out, (hstQ.set2 _).second⟩); (case measure => (simp [intOf]; omega))) | (have hstQ := hstP.alloc (.cells #[.slice av L.length cv] 46); have x8 := hstQ.cell (b := wP.heap.size) (x := .slice av L.length cv) (t := 46) (List.Mem.head _); have x6 := hstQ.cell (b := w3.heap.size) (x := .slice ca cur.length cc) (t := 46) (by simp); have x6f := hstQ.frozen (b := w3.heap.size) (x := .slice ca cur.length cc) (t := 46) (by simp); have xr := hstQ.cell (b := w.heap.size + 1) (x := .slice none 0 0) (t := 46) (by simp); have xrf := hstQ.frozen (b := w.heap.size + 1) (x := .slice none 0 0) (t := 46) (by simp); go_wp2; go_roundw; (case rel => exact ⟨k + 1, L, av, cv, by omega, by go_num, HLOK.out, HNI.out, HRUN.out, (hstQ.set2 _).second⟩); (case measure => (simp [intOf]; omega)))
    · have hk1 : ¬ (k : Int) < (rs.length : Int) := by omega
      have HRUN : Hid (Disks.run l rs = (cur, rs.length)) := by
        show _ = _
        rw [HRN.out, List.drop_eq_nil_of_le (by omega)]
        simp only [Disks.run, Nat.add_zero, Prod.mk.injEq, true_and]
        omega
      have xr := HSTK.out.cell (b := w.heap.size + 1) (x := .slice none 0 0) (t := 46) (by simp)
      have xrf := HSTK.out.frozen (b := w.heap.size + 1) (x := .slice none 0 0) (t := 46) (by simp)
      have hres := World.cell?_setCell_same wr _ (.slice ca cur.length cc) xr
      clear HRN
      go_wp2
      refine bodyPost_ret (v := .tuple #[.agg #[.slice ca cur.length cc], .int .i64 (rs.length : Int)]) (by simp [results, Tryz.results32, go_sem, hres]) rfl ⟨_, by rw [HRUN.out], by rw [HRUN.out]; exact (HSTK.out.drop1.set _).own _ (List.Mem.head _), (HSTK.out.drop1.set _).below⟩

end Go.Proofs.YtbcfiiilikkkeaaGreatDoor
namespace Go.Proofs.YtbcfiiilikkkeaaGreatDoor
open Go.RowKit
set_option linter.unusedVariables false
set_option linter.unusedSimpArgs false

def cellsRaw (l : List Disks.RawL) : List Value := l.flatMap fun r => [.int .i64 r.kind, .string r.name, .string r.to, .string r.text]
theorem cellsRaw_len : ∀ l : List Disks.RawL, (cellsRaw l).length = l.length * 4
  | [] => rfl
  | r :: l => by have := cellsRaw_len l; simp only [cellsRaw, List.flatMap_cons, List.length_append, List.length_cons, List.length_nil] at *; omega
theorem cellsRaw_at : ∀ (l : List Disks.RawL) (j : Nat) (hj : j < l.length), (cellsRaw l)[j * 4]? = some (.int .i64 l[j].kind) ∧ (cellsRaw l)[j * 4 + 1]? = some (.string l[j].name) ∧ (cellsRaw l)[j * 4 + 2]? = some (.string l[j].to) ∧ (cellsRaw l)[j * 4 + 3]? = some (.string l[j].text)
  | r :: l, 0, _ => ⟨rfl, rfl, rfl, rfl⟩
  | r :: l, j + 1, hj => by
    have := cellsRaw_at l j (by simpa using hj)
    simpa [cellsRaw, Nat.add_mul, Nat.add_assoc] using this
theorem cellsRaw_set : ∀ (l : List Disks.RawL) (j : Nat) (r : Disks.RawL), cellsRaw (l.set j r) = ((((cellsRaw l).set (j * 4) (.int .i64 r.kind)).set (j * 4 + 1) (.string r.name)).set (j * 4 + 2) (.string r.to)).set (j * 4 + 3) (.string r.text)
  | [], j, r => by simp [cellsRaw]
  | x :: l, 0, r => by simp [cellsRaw]
  | x :: l, j + 1, r => by
    have := cellsRaw_set l j r
    simp only [cellsRaw, List.set_cons_succ, List.flatMap_cons, List.cons_append, List.nil_append, Nat.add_mul] at *
    rw [this]
theorem cellsRaw_own {w : World} {base : Nat} {e : TypeId} {g n cap : Nat} {l : List Disks.RawL} (hn : l.length = n) (h : w.ownsRow base e 4 (.slice (some ⟨g, 0, none⟩) n cap) n (cellsRaw l)) : RawsAt w (some ⟨g, 0, none⟩) g 0 l := by
  refine ⟨fun _ => rfl, fun j hj => ?_⟩
  rw [Nat.zero_add, h.cellAt (j * 4) (by omega), h.cellAt (j * 4 + 1) (by omega), h.cellAt (j * 4 + 2) (by omega), h.cellAt (j * 4 + 3) (by omega)]
  exact cellsRaw_at l j hj
theorem cellsRaw_slice {w : World} {base : Nat} {v : Value} {l : List Disks.RawL} (h : w.ownsRow base 103 4 v l.length (cellsRaw l)) : ∃ a g cap, v = .slice a l.length cap ∧ RawsAt w a g 0 l := by
  rcases h.2 with ⟨h1, h2⟩ | ⟨g, cap, cur, h1, _⟩
  · exact ⟨none, 0, 0, by rw [h1, h2], fun q => by omega, fun j hj => by omega⟩
  · subst h1; exact ⟨_, g, cap, rfl, cellsRaw_own rfl h⟩
theorem Tryz.info103 : (Tryz.prog.info? 103).map (fun i => (i.zero, i.size, i.bytes)) = some (some (.agg #[.int .i64 0, .string ByteArray.empty, .string ByteArray.empty, .string ByteArray.empty]), 4, 56) := by kernel_rfl
set_option maxHeartbeats 2000000 in
set_option maxRecDepth 100000 in
theorem eqRaw1_same (r : Disks.RawL) (w : World) : Calls Tryz.prog 77 #[rawV r, rawV r] w fun e w' => e = .returned (.bool true) ∧ Below w.heap.size w w' := by
  obtain ⟨F0, F1, F2, F3⟩ := r
  unfold rawV
  go_enter Tryz.func77, Tryz.ntmps77
  go_wp2
  go_ret
  exact ⟨rfl, ((Below.refl _ _).alloc (Nat.le_refl _) _).alloc (by simp) _⟩
set_option maxHeartbeats 2000000 in
set_option maxRecDepth 100000 in
theorem eqRawS_same {a b : Option Addr} {g off cap h off' cap' : Nat} (l : List Disks.RawL) (hlen : l.length ≤ 1048576) (w : World) (hf : RawsAt w a g off l) (hf' : RawsAt w b h off' l) :
    Calls Tryz.prog 20 #[.slice a l.length cap, .slice b l.length cap'] w fun e w' => e = .returned (.bool true) ∧ Below w.heap.size w w' := by
  have HF : Hid (RawsAt w a g off l) := hf
  have HF' : Hid (RawsAt w b h off' l) := hf'
  clear hf hf'
  go_enter Tryz.func20, Tryz.ntmps20
  go_wp2
  go_loopw [5] (fun i wr => ∃ k : Nat, k ≤ l.length ∧ i = .int .i64 (k : Int) ∧ Below w.heap.size w wr)
    (fun i _ => l.length - (intOf i).toNat)
  case atStart => exact ⟨0, Nat.zero_le _, rfl, Below.refl _ _⟩
  case round =>
    obtain ⟨k, hk, rfl, hbel⟩ := hrel
    by_cases hlt : k < l.length
    · have hcc := (HF.out.kept hbel).2 k hlt
      have hdd := (HF'.out.kept hbel).2 k hlt
      have ea := HF.out.1 (by omega)
      have eb := HF'.out.1 (by omega)
      subst ea eb
      obtain ⟨F0, hF0⟩ : ∃ F0, F0 = l[k].kind := ⟨_, rfl⟩
      obtain ⟨F1, hF1⟩ : ∃ F1, F1 = l[k].name := ⟨_, rfl⟩
      obtain ⟨F2, hF2⟩ : ∃ F2, F2 = l[k].to := ⟨_, rfl⟩
      obtain ⟨F3, hF3⟩ : ∃ F3, F3 = l[k].text := ⟨_, rfl⟩
      have HEL : Hid (l[k] = ⟨F0, F1, F2, F3⟩) := by show _ = _; rw [hF0, hF1, hF2, hF3]
      simp only [← hF0, ← hF1, ← hF2, ← hF3] at hcc hdd
      obtain ⟨c0, c1, c2, c3⟩ := hcc
      obtain ⟨d0, d1, d2, d3⟩ := hdd
      clear hF0 hF1 hF2 hF3
      have hk0 : (0 : Int) ≤ (k : Int) := by omega
      have hk1 : (k : Int) < (l.length : Int) := by omega
      go_wp2
      have NE := Abv.ne wr
      have C0 := fun x : Abv wr => x.cell c0
      have D0 := fun x : Abv wr => x.cell d0
      have C1 := fun x : Abv wr => x.cell c1
      have D1 := fun x : Abv wr => x.cell d1
      have C2 := fun x : Abv wr => x.cell c2
      have D2 := fun x : Abv wr => x.cell d2
      have C3 := fun x : Abv wr => x.cell c3
      have D3 := fun x : Abv wr => x.cell d3
      refine wp_region_above (by kernel_rfl) (by kernel_rfl) ?_
      repeat (go_big_quiet_step (first | (go_at_call 77; exact calls_above (eqRaw1_same ⟨F0, F1, F2, F3⟩ _))))
      refine wpQuiet_nil ?_
      rintro w1 ⟨⟨_, hb1⟩, rfl⟩
      clear NE C0 D0 C1 D1 C2 D2 C3 D3
      go_wp2
      go_roundw
      case rel => exact ⟨k + 1, by omega, by go_num, hbel.trans (hb1.mono hbel.size)⟩
      case measure => simp [intOf]; omega
    · have hk1 : ¬ (k : Int) < (l.length : Int) := by omega
      go_wp2
      go_ret
      exact ⟨rfl, hbel⟩
theorem RawsAt.cellsAll {w : World} {a : Option Addr} {g off : Nat} {l : List Disks.RawL} (h : RawsAt w a g off l) : ∀ j u, (cellsRaw l)[j]? = some u → w.cell? ((⟨g, off, none⟩ : Addr).add j) = some u := by
  intro j u hu
  rw [Addr.add_lit]
  have hj : j < l.length * 4 := by rw [← cellsRaw_len]; exact (List.getElem?_eq_some_iff.1 hu).1
  obtain ⟨k, i, hi, rfl⟩ : ∃ k i, i < 4 ∧ j = k * 4 + i := ⟨j / 4, j % 4, by omega, by omega⟩
  have h1 := cellsRaw_at l k (by omega)
  have h2 := h.2 k (by omega)
  have h3 : i = 0 ∨ i = 1 ∨ i = 2 ∨ i = 3 := by omega
  rcases h3 with rfl | rfl | rfl | rfl
  · rw [show k * 4 + 0 = k * 4 from by omega, h1.1] at hu
    rw [← Option.some.inj hu]
    simpa [Nat.add_assoc] using h2.1
  · rw [h1.2.1] at hu
    rw [← Option.some.inj hu]
    simpa [Nat.add_assoc] using h2.2.1
  · rw [h1.2.2.1] at hu
    rw [← Option.some.inj hu]
    simpa [Nat.add_assoc] using h2.2.2.1
  · rw [h1.2.2.2] at hu
    rw [← Option.some.inj hu]
    simpa [Nat.add_assoc] using h2.2.2.2
theorem cellsRaw_one {l : List Disks.RawL} : ∀ u ∈ cellsRaw l, u.oneCell' = true := by
  intro u hu
  unfold cellsRaw at hu
  obtain ⟨r, _, hr⟩ := List.mem_flatMap.1 hu
  simp only [List.mem_cons, List.not_mem_nil, or_false] at hr
  rcases hr with rfl | rfl | rfl | rfl <;> rfl
/-- 'append(x, y...)' onto a row of the call's own. -/
theorem wpList_appendRaw {w : World} {ops : Array Oper} {rest : List Oper} {o : Oper} {act : Act} {Q : Exit → Act → World → Prop} (hgd : o.guard = none) (s x : Operand)
    (ho : o.op = .call { callee := .builtin .append, args := #[s, x], argTypes := #[41, 41] }) (base : Nat) (v : Value) (n : Nat) (xs : List Value) (hs : act.eval s = v) (hown : w.ownsRow base 103 4 v n xs)
    (a : Option Addr) (g off cap : Nat) (l : List Disks.RawL) (hx : act.eval x = .slice a l.length cap) (hf : RawsAt w a g off l) (hnil : a = none → cap = 0) (h63 : n + l.length ≤ 2097152) (hbase : base ≤ w.heap.size)
    (h : ∀ v' w', w'.ownsRow base 103 4 v' (n + l.length) (xs ++ cellsRaw l) → w.grownBy w' v.ownBlock → wpList Tryz.prog ops Q rest (act.put o.dst v') w') : wpList Tryz.prog ops Q (o :: rest) act w := by
  obtain ⟨i0, hi, hz0, hz1, hz2⟩ := info_parts Tryz.info103
  cases a with
  | none =>
    have hl : l = [] := by
      cases l with
      | nil => rfl
      | cons f r => have := hf.1 (by simp); cases this
    subst hl
    rw [hnil rfl] at hx
    refine wpList_append_own_none hgd s x 41 ho base 103 i0 4 Tryz.underlying41 hi v n xs hs hown hx ?_
    refine h v w ?_ (World.grownBy.refl _ _)
    simpa [cellsRaw] using hown
  | some ad =>
    have had : 0 < l.length → ad = ⟨g, off, none⟩ := fun hp => Option.some.inj (hf.1 hp)
    refine wpList_append_own w hgd s x 41 ho base 103 i0 (.agg #[.int .i64 0, .string ByteArray.empty, .string ByteArray.empty, .string ByteArray.empty]) 4 56 Tryz.underlying41 hi hz0 hz1 hz2 rfl (by decide) v n xs hs hown ad l.length cap (cellsRaw l) hx (cellsRaw_len l) ?_ cellsRaw_one (by unfold maxLen; omega) (by omega) hbase ?_
    · intro j u hu
      have hp : 0 < l.length := by
        have := (List.getElem?_eq_some_iff.1 hu).1
        rw [cellsRaw_len] at this
        omega
      rw [had hp]
      exact hf.cellsAll j u hu
    · intro v' w' h1 h2 _
      exact h v' w' h1 h2
/-- Marked ones: from k on, 4 numbers each. -/
def markRaw1 (m : Nat) : Disks.RawL := ⟨((m : Nat) : Int), mk_pk (m + 1), mk_pk (m + 2), mk_pk (m + 3)⟩
def marksRaw (k n : Nat) : List Disks.RawL := (List.range n).map fun i => markRaw1 (k + 4 * i)
theorem marksRaw_len (k n : Nat) : (marksRaw k n).length = n := by simp [marksRaw]
theorem marksRaw_at (k n j : Nat) (hj : j < (marksRaw k n).length) : (marksRaw k n)[j] = markRaw1 (k + 4 * j) := by simp [marksRaw]
theorem markText_at_pk (M i : Nat) (x : Int) (hx : x = ((M + i : Nat) : Int)) (h0 : 0 < M) (hk : M + i ≤ 1000000000) (w : World) :
    Calls Tryz.prog 84 #[.int .i64 x] w fun e w' => e = .returned (.string (mk_pk (M + i))) ∧ Below w.heap.size w w' := by
  rw [hx]; exact markText_is_pk (M + i) (by omega) hk w
set_option maxHeartbeats 2000000 in
set_option maxRecDepth 100000 in
theorem markRawS_is {B g cap : Nat} (l : List Disks.RawL) (hlen : l.length ≤ 1048576) (k : Nat) (h0 : 0 < k) (hk : k ≤ 100000000) (w : World) (hA : w.ownsRow B 103 4 (.slice (some ⟨g, 0, none⟩) l.length cap) l.length (cellsRaw l)) :
    Calls Tryz.prog 26 #[.slice (some ⟨g, 0, none⟩) l.length cap, .int .i64 (k : Int)] w fun e w' => e = .returned (.int .i64 ((k + 4 * l.length : Nat) : Int)) ∧ w'.ownsRow B 103 4 (.slice (some ⟨g, 0, none⟩) l.length cap) l.length (cellsRaw (marksRaw k l.length)) ∧ w.grownBy w' (some g) := by
  go_enter Tryz.func26, Tryz.ntmps26
  go_wp2
  go_loopw [1, 5] (fun x i wr => ∃ (j : Nat) (pre : List Disks.RawL), j ≤ l.length ∧ i = .int .i64 (j : Int) ∧ x = .int .i64 ((k + 4 * j : Nat) : Int) ∧ pre.length = l.length ∧ pre.take j = (marksRaw k l.length).take j ∧
      wr.ownsRow B 103 4 (.slice (some ⟨g, 0, none⟩) l.length cap) l.length (cellsRaw pre) ∧ w.grownBy wr (some g)) (fun _ i _ => l.length - (intOf i).toNat)
  case atStart => exact ⟨0, l, Nat.zero_le _, rfl, rfl, rfl, by simp, hA, World.grownBy.refl _ _⟩
  case round =>
    obtain ⟨j, pre, hj, rfl, rfl, hpl, hpt, hown, hgr⟩ := hrel
    have HL : Hid (pre.length = l.length) := hpl
    have HT : Hid (pre.take j = (marksRaw k l.length).take j) := hpt
    clear hpl hpt hA
    by_cases hlt : j < l.length
    · have hk0 : (0 : Int) ≤ (j : Int) := by omega
      have hk1 : (j : Int) < (l.length : Int) := by omega
      obtain ⟨M, hM⟩ : ∃ M : Nat, M = k + 4 * j := ⟨_, rfl⟩
      have hMb : 0 < M ∧ M ≤ 900000000 := by omega
      have HM : Hid (M = k + 4 * j) := hM
      rw [← hM]
      clear hM
      have hw0 := hown
      have hgw0 := hgr
      have hf0 := hw0.frozenAt (j * 4)
      obtain ⟨u0, hu0⟩ := own_cell_ex (q := j * 4) hw0 (by omega) (by simp only [List.length_set, cellsRaw_len, HL.out])
      have hs0 := (hw0.stored (j * 4) (.int .i64 ((M + 0 : Nat) : Int)))
      have hgs0 := (hgw0.trans (hw0.stored (j * 4) (.int .i64 ((M + 0 : Nat) : Int))).2)
      have HS0 : Hid _ := hs0.1
      have HG0 : Hid _ := hgs0
      clear hown hgr
      clear hs0 hgs0 hw0 hgw0
      go_wp2_with fail
      refine (markText_at_pk M 1 _ (by omega) (by omega) (by omega) _).mono ?_
      rintro e w1 ⟨rfl, hb1⟩
      have hw1 := own_kept HS0.out hb1
      have hgw1 := HG0.out.trans (own_below'_pk hb1)
      clear hb1
      have hf1 := hw1.frozenAt (j * 4 + 1)
      obtain ⟨u1, hu1⟩ := own_cell_ex (q := j * 4 + 1) hw1 (by omega) (by simp only [List.length_set, cellsRaw_len, HL.out])
      have hs1 := (hw1.stored (j * 4 + 1) (.string (mk_pk (M + 1))))
      have hgs1 := (hgw1.trans (hw1.stored (j * 4 + 1) (.string (mk_pk (M + 1)))).2)
      have HS1 : Hid _ := hs1.1
      have HG1 : Hid _ := hgs1
      clear hs1 hgs1 hw1 hgw1
      go_wp2_with fail
      refine (markText_at_pk M 2 _ (by omega) (by omega) (by omega) _).mono ?_
      rintro e w2 ⟨rfl, hb2⟩
      have hw2 := own_kept HS1.out hb2
      have hgw2 := HG1.out.trans (own_below'_pk hb2)
      clear hb2
      have hf2 := hw2.frozenAt (j * 4 + 2)
      obtain ⟨u2, hu2⟩ := own_cell_ex (q := j * 4 + 2) hw2 (by omega) (by simp only [List.length_set, cellsRaw_len, HL.out])
      have hs2 := (hw2.stored (j * 4 + 2) (.string (mk_pk (M + 2))))
      have hgs2 := (hgw2.trans (hw2.stored (j * 4 + 2) (.string (mk_pk (M + 2)))).2)
      have HS2 : Hid _ := hs2.1
      have HG2 : Hid _ := hgs2
      clear hs2 hgs2 hw2 hgw2
      go_wp2_with fail
      refine (markText_at_pk M 3 _ (by omega) (by omega) (by omega) _).mono ?_
      rintro e w3 ⟨rfl, hb3⟩
      have hw3 := own_kept HS2.out hb3
      have hgw3 := HG2.out.trans (own_below'_pk hb3)
      clear hb3
      have hf3 := hw3.frozenAt (j * 4 + 3)
      obtain ⟨u3, hu3⟩ := own_cell_ex (q := j * 4 + 3) hw3 (by omega) (by simp only [List.length_set, cellsRaw_len, HL.out])
      have hs3 := (hw3.stored (j * 4 + 3) (.string (mk_pk (M + 3))))
      have hgs3 := (hgw3.trans (hw3.stored (j * 4 + 3) (.string (mk_pk (M + 3)))).2)
      have HS3 : Hid _ := hs3.1
      have HG3 : Hid _ := hgs3
      clear hs3 hgs3 hw3 hgw3
      go_wp2
      go_roundw
      case rel =>
        have e := cellsRaw_set pre j (markRaw1 M)
        refine ⟨j + 1, pre.set j (markRaw1 M), by omega, by go_num, ?_, by rw [List.length_set]; exact HL.out, ?_, ?_, HG3.out⟩
        · refine congrArg (Value.int .i64) ?_
          have := HM.out
          omega
        · refine take_set_step (by rw [marksRaw_len]; exact hlt) (by rw [marksRaw_len]; exact HL.out) HT.out ?_
          rw [marksRaw_at, ← HM.out]
        · rw [e]; exact HS3.out
      case measure => simp [intOf]; omega
    · have hk1 : ¬ (j : Int) < (l.length : Int) := by omega
      have HE : Hid (pre = marksRaw k l.length ∧ j = l.length) := by
        have h := HT.out
        rw [List.take_of_length_le (by rw [HL.out]; omega), List.take_of_length_le (by rw [marksRaw_len]; omega)] at h
        exact ⟨h, by omega⟩
      go_wp2
      go_ret
      refine ⟨by rw [← HE.out.2]; rfl, by rw [← HE.out.1]; exact hown, hgr⟩
set_option maxHeartbeats 2000000 in
set_option maxRecDepth 100000 in
theorem markRawS_nil (k : Nat) (w : World) : Calls Tryz.prog 26 #[.slice none 0 0, .int .i64 (k : Int)] w fun e w' => e = .returned (.int .i64 (k : Int)) ∧ w = w' := by
  go_enter Tryz.func26, Tryz.ntmps26
  go_wp2
  refine wp_loop_rounds 1 ?_
  rw [rounds_succ]
  go_wp2
  go_ret
  exact ⟨rfl, rfl⟩
theorem markRawS_own {B : Nat} {v : Value} (l : List Disks.RawL) (hlen : l.length ≤ 1048576) (k : Nat) (h0 : 0 < k) (hk : k ≤ 100000000) (w : World) (hA : w.ownsRow B 103 4 v l.length (cellsRaw l)) :
    Calls Tryz.prog 26 #[v, .int .i64 (k : Int)] w fun e w' => e = .returned (.int .i64 ((k + 4 * l.length : Nat) : Int)) ∧ w'.ownsRow B 103 4 v l.length (cellsRaw (marksRaw k l.length)) ∧ w.grownBy w' v.ownBlock := by
  rcases hA.2 with ⟨h1, h2⟩ | ⟨g, cap, cur, h1, _⟩
  · subst h1
    have hl : l = [] := List.length_eq_zero_iff.1 h2
    subst hl
    refine (markRawS_nil k w).mono ?_
    rintro e w' ⟨rfl, rfl⟩
    exact ⟨rfl, World.ownsRow_nil _ _ _ _, World.grownBy.refl _ _⟩
  · subst h1
    exact markRawS_is l hlen k h0 hk w hA
end Go.Proofs.YtbcfiiilikkkeaaGreatDoor
