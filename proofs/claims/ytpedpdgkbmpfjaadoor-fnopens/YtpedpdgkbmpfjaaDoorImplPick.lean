/- The program's nextSession, leastHeard and sessionOf, walked. -/
import Derived.Test.YtpedpdgkbmpfjaaDoorSesOf
import Derived.Test.YtpedpdgkbmpfjaaDoorMapGet
namespace Go.Proofs.YtpedpdgkbmpfjaaDoor
open Go.RowKit
open Acts (decS skey sval nkey kkey sess parse Enc get nextN least pickL findS)
set_option linter.unusedVariables false
set_option linter.unusedSimpArgs false

theorem getR_get {m : List PairL} (h : Maps.ok m) (K : ByteArray) : GetR m K ((get m K).getD ⟨#[]⟩) (get m K).isSome := by
  cases hg : get m K with
  | none => exact Or.inr ⟨Or.inr (Or.inr ⟨rfl, fun i hi => Acts.get_none hg _ (List.getElem_mem hi)⟩), rfl, rfl⟩
  | some v =>
    obtain ⟨k, hk, e⟩ := List.mem_iff_getElem.1 (Acts.get_mem hg)
    have ha := ((Maps.ok_iff m).1 h).2.2
    refine Or.inl ⟨k, hk, h, Or.inl ⟨k, hk, rfl, by rw [e], fun i hi he => ?_⟩, by rw [e]; rfl, rfl⟩
    have := Maps.asc_at PairL.key ha hk hi
    rw [he, e, Batches.lt_irrefl] at this
    cases this
theorem ok_small {m : List PairL} (h : ∀ p ∈ m, Maps.pairOk p) : ∀ p ∈ m, smallPair 2097152 p := fun p hp => by
  obtain ⟨h1, h2, h3⟩ := h p hp
  exact ⟨by omega, by omega⟩
set_option maxHeartbeats 1000000 in
theorem next_is {T : Nat} {a : Option Addr} {g off cap : Nat} (m : List PairL) (hG : Acts.Good T m) (hT : T ≤ 30) (w : World) (hf : PairAt w a g off m) :
    Calls Tryd.prog 58 #[.slice a m.length cap] w fun e w' => e = .returned (.tuple #[.int .i64 (nextN m : Int), .bool true]) ∧ Below w.heap.size w w' := by
  obtain ⟨n1, n2, n3⟩ := Acts.nextN_in (by omega) hG.enc
  have hl := hG.len
  have HG : Hid (∀ W, PairAt W a g off m → Calls Tryd.prog 76 #[.slice a m.length cap, .string ⟨#[110]⟩] W fun e w' => e = .returned (.tuple #[.string ((get m nkey).getD ⟨#[]⟩), .bool (get m nkey).isSome]) ∧ Below W.heap.size W w') := fun W h => implGet_any m (by omega) (ok_small hG.ok) _ _ _ (getR_get (hG.right hT) nkey) W h
  have HF : Hid (PairAt w a g off m) := hf
  clear hf
  rcases n3 with ⟨e1, e2⟩ | e1
  · rw [e1] at HG
    have HE : Hid (nextN m = 1) := e2
    rw [e2]
    clear e1 e2 n1 n2
    simp only [Option.getD_none, Option.isSome_none] at HG
    go_enter Tryd.func58, Tryd.ntmps58
    go_wp2_with (go_at_call 76; refine Calls.mono (HG.out _ HF.out) ?_; rintro e w1 ⟨rfl, hb1⟩)
    go_ret2
    exact ⟨rfl, hb1⟩
  · rw [e1] at HG
    simp only [Option.getD_some, Option.isSome_some] at HG
    have HD : Hid (∀ W, Calls Tryd.prog 74 #[.string (decS (nextN m))] W fun e w' => e = .returned (.tuple #[.int .i64 (nextN m : Int), .bool true]) ∧ W = w') := fun W => implRD_dec _ (by omega) W
    obtain ⟨N, hN⟩ : ∃ N, N = nextN m := ⟨_, rfl⟩
    obtain ⟨V, hV⟩ : ∃ V, V = decS (nextN m) := ⟨_, rfl⟩
    rw [← hV] at HG HD
    rw [← hN] at HD ⊢
    clear e1 hN hV n1 n2
    go_enter Tryd.func58, Tryd.ntmps58
    go_wp2_with (first | (go_at_call 76; refine Calls.mono (HG.out _ HF.out) ?_; rintro e w1 ⟨rfl, hb1⟩) | (go_at_call 74; refine Calls.mono (HD.out _) ?_; rintro e w2 ⟨rfl, hw⟩; subst hw))
    go_ret2
    exact ⟨rfl, hb1⟩
theorem result64 {w : World} {g : Nat} {A C : Array Value} {R : Bool} (hg : w.heap[g]? = some (.cells C 92 (0, 0))) (hs : A.size = 4) {tmps : Array Value} (ht : tmps.getD 4 undef = .pointer (some ⟨g, 0, none⟩)) (h3 : tmps.getD 5 undef = .bool R) : (results Tryd.f64 tmps).run Tryd.prog (w.setRow g A) = .ok (.tuple #[.agg A, .bool R]) (w.setRow g A) := by
  have h := run_loadVar_agg (P := Tryd.prog) Tryd.isAgg92 Tryd.sizeOf92 (row_size (A := A) hg) hs
  have ht' : tmps[4]?.getD undef = .pointer (some ⟨g, 0, none⟩) := by simpa using ht
  have h3' : tmps[5]?.getD undef = .bool R := by simpa using h3
  simp [results, Tryd.results64, ht', h3', asAddr, h]
theorem zeroS_one : ∀ v ∈ zeroS.toList, v.oneCell' = true := by intro v hv; simp [zeroS] at hv; rcases hv with rfl | rfl <;> rfl
theorem ses_cells {w : World} {a : Option Addr} {g off k : Nat} {L : List Ses} (h : SesAt w a g off L) (hk : k < L.length) : w.cell? ⟨g, off + k * 4, none⟩ = some (.int .i64 (L[k].id : Int)) ∧ w.cell? ⟨g, off + k * 4 + 1, none⟩ = some (.int .i64 (L[k].seq : Int)) ∧ w.cell? ⟨g, off + k * 4 + 2, none⟩ = some (.int .i64 (L[k].at_ : Int)) ∧ w.cell? ⟨g, off + k * 4 + 3, none⟩ = some (.string L[k].rep) := h.2 k hk
/-- What sessionOf answers of a list of sessions. -/
def foundV (L : List Ses) (id : Int) : Value := match L.find? fun s => (s.id : Int) == id with
  | some s => .tuple #[sesV s, .bool true]
  | none => .tuple #[.agg zeroS, .bool false]
set_option maxHeartbeats 4000000 in
set_option maxRecDepth 100000 in
theorem sesOf64_is {a : Option Addr} {g off cap : Nat} (L : List Ses) (hL : L.length ≤ 200) (id : Int) (w : World) (hf : SesAt w a g off L) :
    Calls Tryd.prog 64 #[.slice a L.length cap, .int .i64 id] w fun e w' => e = .returned (foundV L id) ∧ Below w.heap.size w w' := by
  have HF : Hid (SesAt w a g off L) := hf
  clear hf
  have HZ : Hid (∀ W, Below (w.alloc (Obj.cells #[.int .i64 0, .int .i64 0, .int .i64 0, .string ⟨#[]⟩] 92)).heap.size (w.alloc (Obj.cells #[.int .i64 0, .int .i64 0, .int .i64 0, .string ⟨#[]⟩] 92)) W → W.heap[w.heap.size]? = some (.cells zeroS 92 (0, 0))) := fun W hb => by
    have p := heap_alloc_new w (Obj.cells #[.int .i64 0, .int .i64 0, .int .i64 0, .string ⟨#[]⟩] 92)
    exact (hb.block _ (Array.getElem?_eq_some_iff.1 p).1).trans p
  have HB : Hid (Below w.heap.size w (w.alloc (Obj.cells #[.int .i64 0, .int .i64 0, .int .i64 0, .string ⟨#[]⟩] 92))) := (Below.refl _ _).alloc (Nat.le_refl _) _
  go_enter Tryd.func64, Tryd.ntmps64
  go_wp2_with fail
  go_loopw [10] (fun i wr => ∃ k : Nat, k ≤ L.length ∧ i = .int .i64 (k : Int) ∧ Below (w.alloc (Obj.cells #[.int .i64 0, .int .i64 0, .int .i64 0, .string ⟨#[]⟩] 92)).heap.size (w.alloc (Obj.cells #[.int .i64 0, .int .i64 0, .int .i64 0, .string ⟨#[]⟩] 92)) wr ∧ (L.take k).find? (fun s => (s.id : Int) == id) = none)
    (fun i _ => L.length - (intOf i).toNat)
  case atStart => exact ⟨0, Nat.zero_le _, rfl, Below.refl _ _, by simp⟩
  case round =>
    obtain ⟨k, hk, rfl, hb, hn⟩ := hrel
    have HBR : Hid (Below (w.alloc (Obj.cells #[.int .i64 0, .int .i64 0, .int .i64 0, .string ⟨#[]⟩] 92)).heap.size (w.alloc (Obj.cells #[.int .i64 0, .int .i64 0, .int .i64 0, .string ⟨#[]⟩] 92)) wr) := hb
    have HN : Hid ((L.take k).find? (fun s => (s.id : Int) == id) = none) := hn
    have hbw : Below w.heap.size w wr := HB.out.trans (hb.mono HB.out.size)
    have HBW : Hid (Below w.heap.size w wr) := hbw
    by_cases hlt : k < L.length
    · obtain ⟨c0, c1, c2, c3⟩ := ses_cells (HF.out.kept hbw) hlt
      have ea := HF.out.1 (by omega)
      subst ea
      have hk0 : (0 : Int) ≤ (k : Int) := by omega
      have hk1 : (k : Int) < (L.length : Int) := by omega
      obtain ⟨s, hs⟩ : ∃ s, s = L[k] := ⟨_, rfl⟩
      rw [← hs] at c0 c1 c2 c3
      have HS : Hid (s = L[k]) := hs
      clear hb hn hbw hs
      cases hid : ((s.id : Int) == id) with
      | true =>
        have HR : Hid (foundV L id = .tuple #[sesV s, .bool true]) := by
          show _ = _
          unfold foundV
          have e : L.find? (fun s => (s.id : Int) == id) = some s := by
            rw [← List.take_append_drop k L, List.find?_append, HN.out, List.drop_eq_getElem_cons hlt, ← HS.out]
            simp [List.find?_cons, hid]
          rw [e]
        have hZ1 := HZ.out _ (HBR.out.trans (((Below.refl wr.heap.size wr).alloc (Nat.le_refl _) (Obj.cells #[.int .i64 (s.id : Int), .int .i64 (s.seq : Int), .int .i64 (s.at_ : Int), .string s.rep] 92)).mono HBR.out.size))
        have HZ1 : Hid ((wr.alloc (Obj.cells #[.int .i64 (s.id : Int), .int .i64 (s.seq : Int), .int .i64 (s.at_ : Int), .string s.rep] 92)).heap[w.heap.size]? = some (.cells zeroS 92 (0, 0))) := hZ1
        have HONE : Hid (∀ v ∈ (sesC s).toList, v.oneCell' = true) := ses_one s
        clear hZ1
        go_wp2_with (first | (refine wpList_storeA Tryd.sizeOf92 rfl _ _ rfl w.heap.size (sesC s) zeroS 92 rfl rfl HZ1.out rfl rfl HONE.out ?_) | fail)
        refine bodyPost_ret (result64 HZ1.out rfl rfl rfl) rfl ⟨by rw [HR.out]; rfl, ?_⟩
        have b1 : Below w.heap.size w (wr.alloc (Obj.cells #[.int .i64 (s.id : Int), .int .i64 (s.seq : Int), .int .i64 (s.at_ : Int), .string s.rep] 92)) := HBW.out.alloc HBW.out.size _
        exact b1.grown (grown_setRow _ w.heap.size (sesC s)) b1.size (fun k e => by cases e; exact Nat.le_refl _)
      | false =>
        have HT : Hid ((L.take (k + 1)).find? (fun s => (s.id : Int) == id) = none) := by
          show _ = _
          rw [List.take_succ_eq_append_getElem hlt, List.find?_append, HN.out, ← HS.out]
          simp [List.find?_cons, hid]
        go_wp2
        go_roundw
        case rel => exact ⟨k + 1, by omega, by go_num, HBR.out.trans (((Below.refl wr.heap.size wr).alloc (Nat.le_refl _) _).mono HBR.out.size), HT.out⟩
        case measure => simp [intOf]; omega
    · have hk1 : ¬ (k : Int) < (L.length : Int) := by omega
      have HR : Hid (foundV L id = .tuple #[.agg zeroS, .bool false]) := by
        show _ = _
        unfold foundV
        rw [List.take_of_length_le (by omega)] at hn
        rw [hn]
      have HZ1 : Hid (wr.heap[w.heap.size]? = some (.cells zeroS 92 (0, 0))) := HZ.out _ hb
      clear hb hn hbw
      go_wp2_with (first | (refine wpList_storeA Tryd.sizeOf92 rfl _ _ rfl w.heap.size zeroS zeroS 92 rfl rfl HZ1.out rfl rfl zeroS_one ?_) | fail)
      exact bodyPost_ret (result64 HZ1.out rfl rfl rfl) rfl ⟨by rw [HR.out], HBW.out.grown (grown_setRow _ w.heap.size zeroS) HBW.out.size (fun k e => by cases e; exact Nat.le_refl _)⟩
/-- What leastHeard holds: its result, and the least one so far. -/
structure LS (w : World) (c : Ses) (W : World) : Prop where
  z : W.heap[w.heap.size]? = some (.cells zeroS 92 (0, 0))
  c : W.heap[w.heap.size + 1]? = some (.cells (sesC c) 92 (0, 0))
  b : Below w.heap.size w W
theorem LS.below {w W W' : World} {c : Ses} (h : LS w c W) (hb : Below W.heap.size W W') : LS w c W' :=
  ⟨(hb.block _ (Array.getElem?_eq_some_iff.1 h.z).1).trans h.z, (hb.block _ (Array.getElem?_eq_some_iff.1 h.c).1).trans h.c, h.b.trans (hb.mono h.b.size)⟩
theorem LS.set {w W : World} {c : Ses} (h : LS w c W) (d : Ses) : LS w d (W.setRow (w.heap.size + 1) (sesC d)) :=
  ⟨row_far h.z (by omega) _, row_size h.c, h.b.grown (grown_setRow _ _ _) h.b.size (fun k e => by cases e; omega)⟩
theorem four_set {W : World} {Z : Nat} {a0 a1 a2 a3 : Value} {t : TypeId} (h : W.heap[Z]? = some (.cells #[a0, a1, a2, a3] t (0, 0))) (v0 v1 v2 v3 : Value) :
    ((((W.setCell ⟨Z, 0, none⟩ v0).setCell ⟨Z, 1, none⟩ v1).setCell ⟨Z, 2, none⟩ v2).setCell ⟨Z, 3, none⟩ v3).heap[Z]? = some (.cells #[v0, v1, v2, v3] t (0, 0)) := by
  have h1 := heap_setCell_same W Z 0 _ t v0 h
  have h2 := heap_setCell_same _ Z 1 _ t v1 h1
  have h3 := heap_setCell_same _ Z 2 _ t v2 h2
  have h4 := heap_setCell_same _ Z 3 _ t v3 h3
  simpa using h4
theorem LS.set4 {w W : World} {c : Ses} (h : LS w c W) (d : Ses) : LS w d ((((W.setCell ⟨w.heap.size + 1, 0, none⟩ (.int .i64 (d.id : Int))).setCell ⟨w.heap.size + 1, 1, none⟩ (.int .i64 (d.seq : Int))).setCell ⟨w.heap.size + 1, 2, none⟩ (.int .i64 (d.at_ : Int))).setCell ⟨w.heap.size + 1, 3, none⟩ (.string d.rep)) :=
  ⟨set_far (set_far (set_far (set_far h.z (by omega) _ _) (by omega) _ _) (by omega) _ _) (by omega) _ _, four_set h.c _ _ _ _,
    (((h.b.setCell (by show w.heap.size ≤ w.heap.size + 1; omega) _).setCell (by show w.heap.size ≤ w.heap.size + 1; omega) _).setCell (by show w.heap.size ≤ w.heap.size + 1; omega) _).setCell (by show w.heap.size ≤ w.heap.size + 1; omega) _⟩
theorem result60 {w : World} {g : Nat} {A C : Array Value} (hg : w.heap[g]? = some (.cells C 92 (0, 0))) (hs : A.size = 4) {tmps : Array Value} (ht : tmps.getD 2 undef = .pointer (some ⟨g, 0, none⟩)) : (results Tryd.f60 tmps).run Tryd.prog (w.setRow g A) = .ok (.agg A) (w.setRow g A) := by
  have h := run_loadVar_agg (P := Tryd.prog) Tryd.isAgg92 Tryd.sizeOf92 (row_size (A := A) hg) hs
  have ht' : tmps[2]?.getD undef = .pointer (some ⟨g, 0, none⟩) := by simpa using ht
  simp [results, Tryd.results60, ht', asAddr, h]
set_option maxHeartbeats 4000000 in
set_option maxRecDepth 100000 in
theorem least_go {a : Option Addr} {g off cap : Nat} (L : List Ses) (hL : L.length ≤ 200) (h0 : 0 < L.length) (w : World) (hf : SesAt w a g off L) :
    Calls Tryd.prog 60 #[.slice a L.length cap] w fun e w' => e = .returned (sesV (least L)) ∧ Below w.heap.size w w' := by
  have HF : Hid (SesAt w a g off L) := hf
  obtain ⟨s0, hs0⟩ : ∃ s0, s0 = L[0] := ⟨_, rfl⟩
  have HLE : Hid (least L = L.foldl pickL s0) := by
    show _ = _
    rw [hs0]
    match L, h0 with
    | s :: r, _ => rfl
  have ea := hf.1 h0
  subst ea
  have hA : Below w.heap.size w (w.alloc (Obj.cells #[.int .i64 0, .int .i64 0, .int .i64 0, .string ⟨#[]⟩] 92)) := (Below.refl _ _).alloc (Nat.le_refl _) _
  obtain ⟨c0, c1, c2, c3⟩ := ses_cells (hf.kept hA) h0
  have hgl := hf.lt h0
  rw [← hs0] at c0 c1 c2 c3
  simp only [Nat.zero_mul, Nat.add_zero] at c0 c1 c2 c3
  have HS0 : Hid (LS w s0 ((w.alloc (Obj.cells #[.int .i64 0, .int .i64 0, .int .i64 0, .string ⟨#[]⟩] 92)).alloc (Obj.cells #[.int .i64 (s0.id : Int), .int .i64 (s0.seq : Int), .int .i64 (s0.at_ : Int), .string s0.rep] 92))) := by
    refine ⟨?_, ?_, two_bel _ _⟩
    · rw [Below.heap_alloc _ _ _ (by simp)]; exact heap_alloc_new w _
    · have := heap_alloc_new (w.alloc (Obj.cells #[.int .i64 0, .int .i64 0, .int .i64 0, .string ⟨#[]⟩] 92)) (Obj.cells #[.int .i64 (s0.id : Int), .int .i64 (s0.seq : Int), .int .i64 (s0.at_ : Int), .string s0.rep] 92)
      have e : (w.alloc (Obj.cells #[.int .i64 0, .int .i64 0, .int .i64 0, .string ⟨#[]⟩] 92)).heap.size = w.heap.size + 1 := by simp
      rw [e] at this
      exact this
  have hl0 : (0 : Int) < (L.length : Int) := by omega
  clear hf hA hs0
  go_enter Tryd.func60, Tryd.ntmps60
  go_wp2_with fail
  clear c0 c1 c2 c3
  go_loopw [11] (fun i wr => ∃ (k : Nat), k ≤ L.length ∧ i = .int .i64 (k : Int) ∧ LS w ((L.take k).foldl pickL s0) wr)
    (fun i _ => L.length - (intOf i).toNat)
  case atStart => exact ⟨0, Nat.zero_le _, rfl, HS0.out⟩
  case round =>
    obtain ⟨k, hk, rfl, hst⟩ := hrel
    obtain ⟨c, hc⟩ : ∃ c, c = (L.take k).foldl pickL s0 := ⟨_, rfl⟩
    rw [← hc] at hst
    have HC : Hid (c = (L.take k).foldl pickL s0) := hc
    have HK : Hid (LS w c wr) := hst
    clear hst hc
    have d0 := cell_of_row _ _ 0 _ _ _ HK.out.c
    have d1 := cell_of_row _ _ 1 _ _ _ HK.out.c
    have d2 := cell_of_row _ _ 2 _ _ _ HK.out.c
    have d3 := cell_of_row _ _ 3 _ _ _ HK.out.c
    simp [sesC] at d0 d1 d2 d3
    by_cases hlt : k < L.length
    · obtain ⟨c0, c1, c2, c3⟩ := ses_cells (HF.out.kept HK.out.b) hlt
      have hk0 : (0 : Int) ≤ (k : Int) := by omega
      have hk1 : (k : Int) < (L.length : Int) := by omega
      have hne : w.heap.size + 1 ≠ wr.heap.size := by have := (Array.getElem?_eq_some_iff.1 HK.out.c).1; omega
      obtain ⟨s, hs⟩ : ∃ s, s = L[k] := ⟨_, rfl⟩
      rw [← hs] at c0 c1 c2 c3
      have HT : Hid ((L.take (k + 1)).foldl pickL s0 = pickL c s) := by
        show _ = _
        rw [List.take_succ_eq_append_getElem hlt, List.foldl_append, ← HC.out, ← hs]
        rfl
      have HK2 : Hid (LS w c (wr.alloc (Obj.cells #[.int .i64 (s.id : Int), .int .i64 (s.seq : Int), .int .i64 (s.at_ : Int), .string s.rep] 92))) := HK.out.below ((Below.refl _ _).alloc (Nat.le_refl _) _)
      have HK3 : Hid (LS w s (((((wr.alloc (Obj.cells #[.int .i64 (s.id : Int), .int .i64 (s.seq : Int), .int .i64 (s.at_ : Int), .string s.rep] 92)).setCell ⟨w.heap.size + 1, 0, none⟩ (.int .i64 (s.id : Int))).setCell ⟨w.heap.size + 1, 1, none⟩ (.int .i64 (s.seq : Int))).setCell ⟨w.heap.size + 1, 2, none⟩ (.int .i64 (s.at_ : Int))).setCell ⟨w.heap.size + 1, 3, none⟩ (.string s.rep))) := HK2.out.set4 s
      have HONE : Hid (∀ v ∈ (sesC s).toList, v.oneCell' = true) := ses_one s
      have e0 : (wr.alloc (Obj.cells #[.int .i64 (s.id : Int), .int .i64 (s.seq : Int), .int .i64 (s.at_ : Int), .string s.rep] 92)).cell? ⟨w.heap.size + 1, 0, none⟩ = some (.int .i64 (c.id : Int)) := cell_of_row _ _ 0 _ _ _ HK2.out.c
      have ef0 : (wr.alloc (Obj.cells #[.int .i64 (s.id : Int), .int .i64 (s.seq : Int), .int .i64 (s.at_ : Int), .string s.rep] 92)).frozen? ⟨w.heap.size + 1, 0, none⟩ = false := frozen_of_row _ _ 0 _ _ HK2.out.c
      have e1 : (wr.alloc (Obj.cells #[.int .i64 (s.id : Int), .int .i64 (s.seq : Int), .int .i64 (s.at_ : Int), .string s.rep] 92)).cell? ⟨w.heap.size + 1, 1, none⟩ = some (.int .i64 (c.seq : Int)) := cell_of_row _ _ 1 _ _ _ HK2.out.c
      have ef1 : (wr.alloc (Obj.cells #[.int .i64 (s.id : Int), .int .i64 (s.seq : Int), .int .i64 (s.at_ : Int), .string s.rep] 92)).frozen? ⟨w.heap.size + 1, 1, none⟩ = false := frozen_of_row _ _ 1 _ _ HK2.out.c
      have e2 : (wr.alloc (Obj.cells #[.int .i64 (s.id : Int), .int .i64 (s.seq : Int), .int .i64 (s.at_ : Int), .string s.rep] 92)).cell? ⟨w.heap.size + 1, 2, none⟩ = some (.int .i64 (c.at_ : Int)) := cell_of_row _ _ 2 _ _ _ HK2.out.c
      have ef2 : (wr.alloc (Obj.cells #[.int .i64 (s.id : Int), .int .i64 (s.seq : Int), .int .i64 (s.at_ : Int), .string s.rep] 92)).frozen? ⟨w.heap.size + 1, 2, none⟩ = false := frozen_of_row _ _ 2 _ _ HK2.out.c
      have e3 : (wr.alloc (Obj.cells #[.int .i64 (s.id : Int), .int .i64 (s.seq : Int), .int .i64 (s.at_ : Int), .string s.rep] 92)).cell? ⟨w.heap.size + 1, 3, none⟩ = some (.string c.rep) := cell_of_row _ _ 3 _ _ _ HK2.out.c
      have ef3 : (wr.alloc (Obj.cells #[.int .i64 (s.id : Int), .int .i64 (s.seq : Int), .int .i64 (s.at_ : Int), .string s.rep] 92)).frozen? ⟨w.heap.size + 1, 3, none⟩ = false := frozen_of_row _ _ 3 _ _ HK2.out.c
      clear hs HC hne d0 d1 d2 d3
      by_cases q1 : s.at_ < c.at_
      · have q1' : (s.at_ : Int) < (c.at_ : Int) := by omega
        have HP : Hid (pickL c s = s) := by show _ = _; unfold pickL; rw [if_pos (Or.inl q1)]
        clear q1
        go_wp2
        go_roundw
        case rel => exact ⟨k + 1, by omega, by go_num, by rw [HT.out, HP.out]; exact HK3.out⟩
        case measure => simp [intOf]; omega
      · have q1' : ¬ (s.at_ : Int) < (c.at_ : Int) := by omega
        by_cases q2 : s.at_ = c.at_
        · have q2' : ((s.at_ : Int) == (c.at_ : Int)) = true := by simp [q2]
          by_cases q3 : s.id < c.id
          · have q3' : (s.id : Int) < (c.id : Int) := by omega
            have HP : Hid (pickL c s = s) := by show _ = _; unfold pickL; rw [if_pos (Or.inr ⟨q2, q3⟩)]
            clear q1 q2 q3
            go_wp2
            go_roundw
            case rel => exact ⟨k + 1, by omega, by go_num, by rw [HT.out, HP.out]; exact HK3.out⟩
            case measure => simp [intOf]; omega
          · have q3' : ¬ (s.id : Int) < (c.id : Int) := by omega
            have HP : Hid (pickL c s = c) := by show _ = _; unfold pickL; rw [if_neg (by omega)]
            clear q1 q2 q3
            go_wp2
            go_roundw
            case rel => exact ⟨k + 1, by omega, by go_num, by rw [HT.out, HP.out]; exact HK2.out⟩
            case measure => simp [intOf]; omega
        · have q2' : ((s.at_ : Int) == (c.at_ : Int)) = false := by simp; omega
          have HP : Hid (pickL c s = c) := by show _ = _; unfold pickL; rw [if_neg (by omega)]
          clear q1 q2
          go_wp2
          go_roundw
          case rel => exact ⟨k + 1, by omega, by go_num, by rw [HT.out, HP.out]; exact HK2.out⟩
          case measure => simp [intOf]; omega
    · have hk1 : ¬ (k : Int) < (L.length : Int) := by omega
      have HR : Hid (least L = c) := by show _ = _; rw [HLE.out, HC.out, List.take_of_length_le (by omega)]
      have HONE : Hid (∀ v ∈ (sesC c).toList, v.oneCell' = true) := ses_one c
      go_wp2_with (first | (refine wpList_storeA Tryd.sizeOf92 rfl _ _ rfl w.heap.size (sesC c) zeroS 92 rfl rfl HK.out.z rfl rfl HONE.out ?_) | fail)
      refine bodyPost_ret (result60 HK.out.z rfl rfl) rfl ⟨by rw [HR.out]; rfl, HK.out.b.grown (grown_setRow _ w.heap.size (sesC c)) HK.out.b.size (fun k e => by cases e; exact Nat.le_refl _)⟩
end Go.Proofs.YtpedpdgkbmpfjaaDoor
