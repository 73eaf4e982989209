/- Rows of raw writes in memory: four cells each; the call of the specification's PutRaws, walked. -/
import Derived.Test.YtahpoemmlpbgdaaGreatMathRaws
import Derived.Deep.DeepCutAuto
namespace Go.Proofs.YtahpoemmlpbgdaaGreat
open Go.RowKit

/-- A slice at a whose elements are these raw writes. -/
def RawsAt (w : World) (a : Option Addr) (g off : Nat) (l : List Disks.RawL) : Prop :=
  (0 < l.length → a = some ⟨g, off, none⟩) ∧ ∀ j (hj : j < l.length), w.cell? ⟨g, off + j * 4, none⟩ = some (.int .i64 l[j].kind) ∧ w.cell? ⟨g, off + j * 4 + 1, none⟩ = some (.string l[j].name) ∧ w.cell? ⟨g, off + j * 4 + 2, none⟩ = some (.string l[j].to) ∧ w.cell? ⟨g, off + j * 4 + 3, none⟩ = some (.string l[j].text)
theorem RawsAt.lt {w : World} {a : Option Addr} {g off : Nat} {l : List Disks.RawL} (h : RawsAt w a g off l) (hl : 0 < l.length) : g < w.heap.size := World.block_lt_of_cell? w _ (h.2 0 hl).1
theorem RawsAt.kept {w w' : World} {a : Option Addr} {g off : Nat} {l : List Disks.RawL} (h : RawsAt w a g off l) (hb : Below w.heap.size w w') : RawsAt w' a g off l := by
  refine ⟨h.1, fun j hj => ?_⟩
  have hg := h.lt (by omega)
  rw [hb.cell (p := ⟨g, off + j * 4, none⟩) hg, hb.cell (p := ⟨g, off + j * 4 + 1, none⟩) hg, hb.cell (p := ⟨g, off + j * 4 + 2, none⟩) hg, hb.cell (p := ⟨g, off + j * 4 + 3, none⟩) hg]
  exact h.2 j hj
theorem LawSt.drop1 {w W : World} {p : Nat × Obj} {bs : List (Nat × Obj)} {rows : List (Value × List FileL)} (h : LawSt w (p :: bs) rows W) : LawSt w bs rows W :=
  ⟨h.below, fun q hq => h.has q (List.mem_cons_of_mem _ hq), h.own, fun q hq => h.sep q (List.mem_cons_of_mem _ hq), h.apart, (List.pairwise_cons.1 h.dist).2, fun q hq => h.up q (List.mem_cons_of_mem _ hq)⟩
/-- The second variable is set. -/
theorem LawSt.set2 {w W : World} {p : Nat × Obj} {bs : List (Nat × Obj)} {rows : List (Value × List FileL)} {b : Nat} {x : Value} {t : TypeId} (h : LawSt w (p :: (b, Obj.cells #[x] t (0, 0)) :: bs) rows W) (v : Value) : LawSt w ((b, .cells #[v] t (0, 0)) :: bs) rows (W.setCell ⟨b, 0, none⟩ v) := h.drop1.set v

theorem own_nil {w : World} {base : Nat} {t : TypeId} {sz : Nat} {a : Option Addr} {n m c : Nat} {xs : List Value} (h : w.ownsRow base t sz (.slice a n c) m xs) : a = none → c = 0 := by
  intro ha
  rcases h.2 with ⟨h1, _⟩ | ⟨g, cap, cur, h1, _⟩
  · cases h1; rfl
  · cases h1; cases ha
/-- What PutRaws answers with. -/
def rawsPost (w : World) (o : List FileL) (n : Nat) (e : Ending) (w' : World) : Prop :=
  ∃ v : Value, e = .returned (.tuple #[.agg #[v], .int .i64 (n : Int)]) ∧ w'.ownsRow w.heap.size 38 2 v o.length (cellsF o) ∧ Below w.heap.size w w'

set_option maxHeartbeats 8000000 in
set_option maxRecDepth 100000 in
theorem specPutRaws_yes {a ra : Option Addr} {g off cap rg roff rcap : Nat} (l : List FileL) (rs : List Disks.RawL) (hok : Disks.ok l) (hrs : rs.length ≤ 60) (hnil : a = none → cap = 0) (hr : ∀ r ∈ rs, r.name.size ≤ 1048576 ∧ r.to.size ≤ 1048576 ∧ r.text.size ≤ 1048576) (w : World) (hf : FilesAt w a g off l) (hrf : RawsAt w ra rg roff rs) :
    Calls Tryz.prog 11 #[.agg #[.slice a l.length cap], .slice ra rs.length rcap] w (rawsPost w (Disks.run l rs).1 (Disks.run l rs).2) := by
  have HF : Hid (FilesAt w a g off l) := hf
  have HRF : Hid (RawsAt w ra rg roff rs) := hrf
  have HOK : Hid (Disks.ok l) := hok
  have HNIL : Hid (a = none → cap = 0) := hnil
  have HR : Hid (∀ r ∈ rs, r.name.size ≤ 1048576 ∧ r.to.size ≤ 1048576 ∧ r.text.size ≤ 1048576) := hr
  have h30 := hok.1
  have HSZ : Hid (∀ f ∈ l, f.1.size ≤ 12 ∧ f.2.size ≤ 20000) := ok_sizes hok
  have h60 : ¬ (60 : Int) < (rs.length : Int) := by omega
  have HST0 : Hid (LawSt w [(w.heap.size + 1, .cells #[.slice none 0 0] 41), (w.heap.size, .cells #[.slice a l.length cap] 41)] [] ((w.alloc (.cells #[.slice a l.length cap] 41)).alloc (.cells #[.slice none 0 0] 41))) := LawSt.start w _ _
  clear hf hrf hok hnil hr
  go_enter Tryz.func11, Tryz.ntmps11
  go_wp2_with fail
  refine (specDiskOk_any true l (by omega) _ (HF.out.kept HST0.out.below) (fun f h => by have := HSZ.out f h; omega) ⟨fun _ => HOK.out, fun _ => rfl⟩).mono ?_
  rintro e w2 ⟨rfl, hb2⟩
  have hst := HST0.out.step hb2
  have HST2 : Hid (LawSt w _ _ w2) := hst
  have hd2 := hst.cell (b := w.heap.size) (x := .slice a l.length cap) (t := 41) (by simp)
  have hdA : (w2.alloc (.cells #[] 38)).cell? ⟨w.heap.size, 0, none⟩ = some (.slice a l.length cap) := (World.cell?_alloc_lt w2 _ _ (World.block_lt_of_cell? w2 _ hd2)).trans hd2
  have hbs : w2.heap.size ≤ (w2.alloc (.cells #[] 38)).heap.size := by simp
  clear hst hb2 HST0
  go_wp2_with (at_builtin; refine wpList_append_files rfl _ _ rfl w2.heap.size (.slice (some ⟨w2.heap.size, 0, none⟩) 0 0) 0 [] rfl (World.ownsRow_made w2 #[] 0 (Nat.le_refl _) (by unfold maxLen; omega) rfl) a g off cap l rfl ((HF.out.kept HST2.out.below).kept ((Below.refl _ _).alloc (Nat.le_refl _) _)) HNIL.out (by omega) hbs ?_)
  intro v3 w3 hown3 hgrow3
  have hb3 : Below w2.heap.size w2 w3 := ((Below.refl _ _).alloc (Nat.le_refl _) _).grown hgrow3 (by simp) (fun j hj => by cases hj; exact Nat.le_refl _)
  obtain ⟨va, vc, rfl⟩ := own_slice hown3
  have HVN : Hid (va = none → vc = 0) := own_nil hown3
  have hst := (HST2.out.call hb3 hown3).alloc (.cells #[.slice va l.length vc] 41)
  have HST3 : Hid (LawSt w _ _ _) := hst
  clear hst hown3 hgrow3 hb3 hd2 hdA hbs HST2
  go_wp2
  go_loopw [7] (fun i wr => ∃ (k : Nat) (cur : List FileL) (va : Option Addr) (vc : Nat), k ≤ rs.length ∧ i = .int .i64 (k : Int) ∧ Disks.ok cur ∧ (va = none → vc = 0) ∧ Disks.run l rs = ((Disks.run cur (rs.drop k)).1, k + (Disks.run cur (rs.drop k)).2) ∧
      LawSt w [(w3.heap.size, .cells #[.slice va cur.length vc] 41), (w.heap.size + 1, .cells #[.slice none 0 0] 41), (w.heap.size, .cells #[.slice a l.length cap] 41)] [(.slice va cur.length vc, cur)] wr)
    (fun i _ => rs.length - (intOf i).toNat)
  case atStart =>
    exact ⟨0, l, va, vc, Nat.zero_le _, rfl, HOK.out, HVN.out, by simp, HST3.out⟩
  case round =>
    obtain ⟨k, cur, ca, cc, hk, rfl, hcok, hcnil, hrun, hst⟩ := hrel
    have HSTK : Hid (LawSt w _ _ wr) := hst
    have HCOK : Hid (Disks.ok cur) := hcok
    have HCNIL : Hid (ca = none → cc = 0) := hcnil
    have HRN : Hid (Disks.run l rs = ((Disks.run cur (rs.drop k)).1, k + (Disks.run cur (rs.drop k)).2)) := hrun
    have hnow := hst.cell (b := w3.heap.size) (x := .slice ca cur.length cc) (t := 41) (by simp)
    have hc30 := hcok.1
    clear hst hcok hcnil hrun HST3
    by_cases hlt : k < rs.length
    · have ea := HRF.out.1 (by omega)
      subst ea
      obtain ⟨Q, hQ⟩ : ∃ Q, Q = rs[k] := ⟨_, rfl⟩
      have hQr := HR.out rs[k] (List.getElem_mem _)
      rw [← hQ] at hQr
      have HDR : Hid (rs.drop k = Q :: rs.drop (k + 1)) := by show _ = _; rw [hQ]; exact List.drop_eq_getElem_cons hlt
      have HQ : Hid (Q = rs[k]) := hQ
      clear hQ
      obtain ⟨K, N, O, X⟩ := Q
      have HRC : Hid (∀ wx : World, Below w.heap.size w wx → wx.cell? ⟨rg, roff + k * 4, none⟩ = some (.int .i64 K) ∧ wx.cell? ⟨rg, roff + k * 4 + 1, none⟩ = some (.string N) ∧ wx.cell? ⟨rg, roff + k * 4 + 2, none⟩ = some (.string O) ∧ wx.cell? ⟨rg, roff + k * 4 + 3, none⟩ = some (.string X)) := fun wx h => by
        have := (HRF.out.kept h).2 k hlt
        rw [← HQ.out] at this
        exact this
      obtain ⟨e0, e1, e2, e3⟩ := HRC.out wr HSTK.out.below
      have hk0 : (0 : Int) ≤ (k : Int) := by omega
      have hk1 : (k : Int) < (rs.length : Int) := by omega
      cases hput : Disks.putRaw cur ⟨K, N, O, X⟩ with
      | none =>
        obtain ⟨L, hL⟩ : ∃ L : List FileL, L = [] := ⟨_, rfl⟩
        have HPUT : Hid (∀ (wx : World) (gx : Nat), FilesAt wx ca gx 0 cur → Calls Tryz.prog 34 #[.agg #[.slice ca cur.length cc], .agg #[.int .i64 K, .string N, .string O, .string X]] wx fun e w' => ∃ v : Value, e = .returned (.tuple #[.agg #[v], .bool false]) ∧ w'.ownsRow wx.heap.size 38 2 v L.length (cellsF L) ∧ Below wx.heap.size wx w') := fun wx gx h => by
          have := specPutRaw_is cur (by omega) (fun f hf => by have := ok_sizes HCOK.out f hf; omega) ⟨K, N, O, X⟩ HCNIL.out hQr wx h
          rw [hput] at this
          rw [hL]
          exact this
        have HRUN : Hid (Disks.run l rs = (cur, k)) := by show _ = _; rw [HRN.out, HDR.out, Disks.run_none hput]; rfl
        clear hput hL HRN HDR
        go_wp2
        go_region_held3 (fun w' => w'.cell? ⟨w3.heap.size, 0, none⟩ = some (.slice ca cur.length cc) ∧ w'.cell? ⟨rg, roff + k * 4, none⟩ = some (.int .i64 K) ∧ w'.cell? ⟨rg, roff + k * 4 + 1, none⟩ = some (.string N) ∧ w'.cell? ⟨rg, roff + k * 4 + 2, none⟩ = some (.string O) ∧ w'.cell? ⟨rg, roff + k * 4 + 3, none⟩ = some (.string X)) (first | go_keep | exact ⟨hstP.cell (b := w3.heap.size) (x := .slice ca cur.length cc) (t := 41) (by simp), HRC.out _ hstP.below⟩ | exact ⟨(hstP.alloc _).cell (b := w3.heap.size) (x := .slice ca cur.length cc) (t := 41) (by simp), HRC.out _ (hstP.alloc _).below⟩ | exact ⟨(hstP.set _).cell (b := w3.heap.size) (x := .slice ca cur.length cc) (t := 41) (by simp), HRC.out _ (hstP.set _).below⟩ | exact ⟨(HSTK.out.drew.alloc _).cell (b := w3.heap.size) (x := .slice ca cur.length cc) (t := 41) (by simp), HRC.out _ (HSTK.out.drew.alloc _).below⟩) (first | (go_at_call 34; obtain ⟨gF, hfF⟩ := LawSt.files (a := ca) (n := cur.length) (c := cc) (l := cur) HSTK.out.drew rfl (by simp); refine (HPUT.out _ _ hfF).mono ?_; rintro e wP ⟨v6, rfl, hown6, hbP⟩; obtain ⟨av, cv, rfl⟩ := own_slice hown6; have hstP := HSTK.out.drew.call hbP hown6; have HNI : Hid (av = none → cv = 0) := own_nil hown6; first | (have hc6 := hstP.cell (b := wr.heap.size) (x := .slice none 0 0) (t := 41) (List.Mem.head _); have hz6 := hstP.frozen (b := wr.heap.size) (x := .slice none 0 0) (t := 41) (List.Mem.head _)) | skip) | (go_at_call 34; obtain ⟨gF, hfF⟩ := LawSt.files (a := ca) (n := cur.length) (c := cc) (l := cur) (HSTK.out.drew.alloc _) rfl (by simp); refine (HPUT.out _ _ hfF).mono ?_; rintro e wP ⟨v6, rfl, hown6, hbP⟩; obtain ⟨av, cv, rfl⟩ := own_slice hown6; have hstP := (HSTK.out.drew.alloc _).call hbP hown6; have HNI : Hid (av = none → cv = 0) := own_nil hown6; first | (have hc6 := hstP.cell (b := wr.heap.size) (x := .slice none 0 0) (t := 41) (List.Mem.head _); have hz6 := hstP.frozen (b := wr.heap.size) (x := .slice none 0 0) (t := 41) (List.Mem.head _)) | skip))
        all_goals first | (have hpin := hc6; have hstQ : LawSt w ((wr.heap.size, .cells #[.slice av L.length cv] 41) :: _) _ (wP.setCell ⟨wr.heap.size, 0, none⟩ (.slice av L.length cv)) := hstP.set (.slice av L.length cv); have x8 := hstQ.cell (b := wr.heap.size) (x := .slice av L.length cv) (t := 41) (List.Mem.head _); have x6 := hstQ.cell (b := w3.heap.size) (x := .slice ca cur.length cc) (t := 41) (by simp); have x6f := hstQ.frozen (b := w3.heap.size) (x := .slice ca cur.length cc) (t := 41) (by simp); have xr := hstQ.cell (b := w.heap.size + 1) (x := .slice none 0 0) (t := 41) (by simp); have xrf := hstQ.frozen (b := w.heap.size + 1) (x := .slice none 0 0) (t := 41) (by simp); have hres := World.cell?_setCell_same _ _ (.slice ca cur.length cc) xr; go_wp2; refine bodyPost_ret (v := .tuple #[.agg #[.slice ca cur.length cc], .int .i64 (k : Int)]) (by simp [results, Tryz.results11, go_sem, hres]) rfl ⟨_, by rw [HRUN.out], by rw [HRUN.out]; exact (hstQ.tail).drop1.drop1.set _ |>.own _ (List.Mem.head _), (hstQ.drop1.drop1.set _).below⟩) | (have hstQ := hstP.alloc (.cells #[.slice av L.length cv] 41); have x8 := hstQ.cell (b := wP.heap.size) (x := .slice av L.length cv) (t := 41) (List.Mem.head _); have x6 := hstQ.cell (b := w3.heap.size) (x := .slice ca cur.length cc) (t := 41) (by simp); have x6f := hstQ.frozen (b := w3.heap.size) (x := .slice ca cur.length cc) (t := 41) (by simp); have xr := hstQ.cell (b := w.heap.size + 1) (x := .slice none 0 0) (t := 41) (by simp); have xrf := hstQ.frozen (b := w.heap.size + 1) (x := .slice none 0 0) (t := 41) (by simp); have hres := World.cell?_setCell_same _ _ (.slice ca cur.length cc) xr; go_wp2; refine bodyPost_ret (v := .tuple #[.agg #[.slice ca cur.length cc], .int .i64 (k : Int)]) (by simp [results, Tryz.results11, go_sem, hres]) rfl ⟨_, by rw [HRUN.out], by rw [HRUN.out]; exact (hstQ.tail).drop1.drop1.set _ |>.own _ (List.Mem.head _), (hstQ.drop1.drop1.set _).below⟩)
      | some L =>
        have HPUT : Hid (∀ (wx : World) (gx : Nat), FilesAt wx ca gx 0 cur → Calls Tryz.prog 34 #[.agg #[.slice ca cur.length cc], .agg #[.int .i64 K, .string N, .string O, .string X]] wx fun e w' => ∃ v : Value, e = .returned (.tuple #[.agg #[v], .bool true]) ∧ w'.ownsRow wx.heap.size 38 2 v L.length (cellsF L) ∧ Below wx.heap.size wx w') := fun wx gx h => by
          have := specPutRaw_is cur (by omega) (fun f hf => by have := ok_sizes HCOK.out f hf; omega) ⟨K, N, O, X⟩ HCNIL.out hQr wx h
          rw [hput] at this
          exact this
        have HLOK : Hid (Disks.ok L) := Disks.put_ok hput
        have HRUN : Hid (Disks.run l rs = ((Disks.run L (rs.drop (k + 1))).1, k + 1 + (Disks.run L (rs.drop (k + 1))).2)) := by
          show _ = _
          rw [HRN.out, HDR.out, Disks.run_some hput]
          simp only [Prod.mk.injEq, true_and]
          omega
        clear hput HRN HDR
        go_wp2
        go_region_held3 (fun w' => w'.cell? ⟨w3.heap.size, 0, none⟩ = some (.slice ca cur.length cc) ∧ w'.cell? ⟨rg, roff + k * 4, none⟩ = some (.int .i64 K) ∧ w'.cell? ⟨rg, roff + k * 4 + 1, none⟩ = some (.string N) ∧ w'.cell? ⟨rg, roff + k * 4 + 2, none⟩ = some (.string O) ∧ w'.cell? ⟨rg, roff + k * 4 + 3, none⟩ = some (.string X)) (first | go_keep | exact ⟨hstP.cell (b := w3.heap.size) (x := .slice ca cur.length cc) (t := 41) (by simp), HRC.out _ hstP.below⟩ | exact ⟨(hstP.alloc _).cell (b := w3.heap.size) (x := .slice ca cur.length cc) (t := 41) (by simp), HRC.out _ (hstP.alloc _).below⟩ | exact ⟨(hstP.set _).cell (b := w3.heap.size) (x := .slice ca cur.length cc) (t := 41) (by simp), HRC.out _ (hstP.set _).below⟩ | exact ⟨(HSTK.out.drew.alloc _).cell (b := w3.heap.size) (x := .slice ca cur.length cc) (t := 41) (by simp), HRC.out _ (HSTK.out.drew.alloc _).below⟩) (first | (go_at_call 34; obtain ⟨gF, hfF⟩ := LawSt.files (a := ca) (n := cur.length) (c := cc) (l := cur) HSTK.out.drew rfl (by simp); refine (HPUT.out _ _ hfF).mono ?_; rintro e wP ⟨v6, rfl, hown6, hbP⟩; obtain ⟨av, cv, rfl⟩ := own_slice hown6; have hstP := HSTK.out.drew.call hbP hown6; have HNI : Hid (av = none → cv = 0) := own_nil hown6; first | (have hc6 := hstP.cell (b := wr.heap.size) (x := .slice none 0 0) (t := 41) (List.Mem.head _); have hz6 := hstP.frozen (b := wr.heap.size) (x := .slice none 0 0) (t := 41) (List.Mem.head _)) | skip) | (go_at_call 34; obtain ⟨gF, hfF⟩ := LawSt.files (a := ca) (n := cur.length) (c := cc) (l := cur) (HSTK.out.drew.alloc _) rfl (by simp); refine (HPUT.out _ _ hfF).mono ?_; rintro e wP ⟨v6, rfl, hown6, hbP⟩; obtain ⟨av, cv, rfl⟩ := own_slice hown6; have hstP := (HSTK.out.drew.alloc _).call hbP hown6; have HNI : Hid (av = none → cv = 0) := own_nil hown6; first | (have hc6 := hstP.cell (b := wr.heap.size) (x := .slice none 0 0) (t := 41) (List.Mem.head _); have hz6 := hstP.frozen (b := wr.heap.size) (x := .slice none 0 0) (t := 41) (List.Mem.head _)) | skip))
        all_goals first | (have hpin := hc6; have hstQ : LawSt w ((wr.heap.size, .cells #[.slice av L.length cv] 41) :: _) _ (wP.setCell ⟨wr.heap.size, 0, none⟩ (.slice av L.length cv)) := hstP.set (.slice av L.length cv); have x8 := hstQ.cell (b := wr.heap.size) (x := .slice av L.length cv) (t := 41) (List.Mem.head _); have x6 := hstQ.cell (b := w3.heap.size) (x := .slice ca cur.length cc) (t := 41) (by simp); have x6f := hstQ.frozen (b := w3.heap.size) (x := .slice ca cur.length cc) (t := 41) (by simp); have xr := hstQ.cell (b := w.heap.size + 1) (x := .slice none 0 0) (t := 41) (by simp); have xrf := hstQ.frozen (b := w.heap.size + 1) (x := .slice none 0 0) (t := 41) (by simp); go_wp2; go_roundw; (case rel => exact ⟨k + 1, L, av, cv, by omega, by go_num, HLOK.out, HNI.out, HRUN.out, (hstQ.set2 _).second⟩); (case measure => (simp [intOf]; omega))) | (have hstQ := hstP.alloc (.cells #[.slice av L.length cv] 41); have x8 := hstQ.cell (b := wP.heap.size) (x := .slice av L.length cv) (t := 41) (List.Mem.head _); have x6 := hstQ.cell (b := w3.heap.size) (x := .slice ca cur.length cc) (t := 41) (by simp); have x6f := hstQ.frozen (b := w3.heap.size) (x := .slice ca cur.length cc) (t := 41) (by simp); have xr := hstQ.cell (b := w.heap.size + 1) (x := .slice none 0 0) (t := 41) (by simp); have xrf := hstQ.frozen (b := w.heap.size + 1) (x := .slice none 0 0) (t := 41) (by simp); go_wp2; go_roundw; (case rel => exact ⟨k + 1, L, av, cv, by omega, by go_num, HLOK.out, HNI.out, HRUN.out, (hstQ.set2 _).second⟩); (case measure => (simp [intOf]; omega)))
    · have hk1 : ¬ (k : Int) < (rs.length : Int) := by omega
      have HRUN : Hid (Disks.run l rs = (cur, rs.length)) := by
        show _ = _
        rw [HRN.out, List.drop_eq_nil_of_le (by omega)]
        simp only [Disks.run, Nat.add_zero, Prod.mk.injEq, true_and]
        omega
      have xr := HSTK.out.cell (b := w.heap.size + 1) (x := .slice none 0 0) (t := 41) (by simp)
      have xrf := HSTK.out.frozen (b := w.heap.size + 1) (x := .slice none 0 0) (t := 41) (by simp)
      have hres := World.cell?_setCell_same wr _ (.slice ca cur.length cc) xr
      clear HRN
      go_wp2
      refine bodyPost_ret (v := .tuple #[.agg #[.slice ca cur.length cc], .int .i64 (rs.length : Int)]) (by simp [results, Tryz.results11, go_sem, hres]) rfl ⟨_, by rw [HRUN.out], by rw [HRUN.out]; exact (HSTK.out.drop1.set _).own _ (List.Mem.head _), (HSTK.out.drop1.set _).below⟩

end Go.Proofs.YtahpoemmlpbgdaaGreat
