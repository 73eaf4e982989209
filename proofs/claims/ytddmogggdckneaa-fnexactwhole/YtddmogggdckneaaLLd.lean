/- Lists of leaders (each with its log's entries) in memory; measured, copied, held against each other. -/
import Derived.Test.YtddmogggdckneaaLLc
import Derived.Test.YtddmogggdckneaaLogLaws
import Derived.Test.YtddmogggdckneaaPut
namespace Go.Proofs.Ytddmogggdckneaa
open Go.RowKit
set_option linter.unusedVariables false
set_option linter.unusedSimpArgs false
/-- A leader's cells and its entries. -/
def OneLd (w : World) (c : LcL) (r : LdL) : Prop := ∃ b gb ob cb, c = lcOf r b cb ∧ EnAt w b gb ob r.log.ents
theorem OneLd.kept {w w' : World} {c : LcL} {r : LdL} (h : OneLd w c r) (hb : Below w.heap.size w w') : OneLd w' c r := by
  obtain ⟨b, gb, ob, cb, h1, h2⟩ := h
  exact ⟨b, gb, ob, cb, h1, h2.kept hb⟩
def FitsLd (w : World) (cs : List LcL) (l : List LdL) : Prop := cs.length = l.length ∧ ∀ j (h : j < cs.length) (h' : j < l.length), OneLd w cs[j] l[j]
theorem FitsLd.kept {w w' : World} {cs : List LcL} {l : List LdL} (h : FitsLd w cs l) (hb : Below w.heap.size w w') : FitsLd w' cs l := ⟨h.1, fun j h1 h2 => (h.2 j h1 h2).kept hb⟩
/-- A slice at a whose elements are these leaders. -/
def LdAt (w : World) (a : Option Addr) (g off : Nat) (cs : List LcL) (l : List LdL) : Prop := LcAt w a g off cs ∧ FitsLd w cs l
theorem LdAt.kept {w w' : World} {a : Option Addr} {g off : Nat} {cs : List LcL} {l : List LdL} (h : LdAt w a g off cs l) (hb : Below w.heap.size w w') : LdAt w' a g off cs l := ⟨h.1.kept hb, h.2.kept hb⟩
def smallLd (B : Nat) (r : LdL) : Prop := r.log.ents.length ≤ B ∧ ∀ e ∈ r.log.ents, smallEn B e
theorem totLd_small {l : List LdL} {B : Nat} (h : totLd l ≤ B) : l.length ≤ B ∧ ∀ r ∈ l, smallLd B r :=
  ⟨Nat.le_trans (totLd_len l) h, fun r hr => by
    have := totLd_mem hr
    obtain ⟨h1, h2⟩ := totEn_small (show totEn r.log.ents ≤ B by omega)
    exact ⟨h1, h2⟩⟩
theorem logV_eq (l : LogL) (b : Option Addr) (cb : Nat) : logV l b cb = .agg #[.int .i64 l.start, .int .i64 l.sterm, .slice b l.ents.length cb] := rfl
theorem lcV_eq (r : LdL) (b : Option Addr) (cb : Nat) : lcV (lcOf r b cb) = .agg #[.int .i64 r.node, .int .i64 r.term, .int .i64 r.log.start, .int .i64 r.log.sterm, .slice b r.log.ents.length cb] := rfl
set_option maxHeartbeats 2000000 in
set_option maxRecDepth 100000 in
theorem szLd1_is (c : LcL) (r : LdL) (hs : smallLd maxLen r) (left : Nat) (hl : left ≤ 1048576) (w : World) (hf : OneLd w c r) :
    Calls Try.prog 54 #[lcV c, .int .i64 (left : Int)] w fun e w' => ∃ x : Int, e = .returned (.int .i64 x) ∧ Left left (totEn r.log.ents) x ∧ Below w.heap.size w w' := by
  obtain ⟨b, gb, ob, cb, rfl, hat⟩ := hf
  rw [lcV_eq]
  obtain ⟨W, hW⟩ : ∃ W, W = w.alloc (Obj.cells #[.int .i64 r.node, .int .i64 r.term, .int .i64 r.log.start, .int .i64 r.log.sterm, .slice b r.log.ents.length cb] 102) := ⟨_, rfl⟩
  have hb : Below w.heap.size w W := by rw [hW]; exact (Below.refl _ _).alloc (Nat.le_refl _) _
  have hrun := szLog_any (cap := cb) r.log hs.1 hs.2 left hl W (hat.kept hb)
  rw [logV_eq] at hrun
  obtain ⟨N, hN⟩ : ∃ N, N = r.node := ⟨_, rfl⟩
  obtain ⟨T, hT⟩ : ∃ T, T = r.term := ⟨_, rfl⟩
  obtain ⟨S, hS⟩ : ∃ S, S = r.log.start := ⟨_, rfl⟩
  obtain ⟨ST, hST⟩ : ∃ ST, ST = r.log.sterm := ⟨_, rfl⟩
  obtain ⟨n, hn⟩ : ∃ n, n = r.log.ents.length := ⟨_, rfl⟩
  obtain ⟨Z, hZ⟩ : ∃ Z, Z = totEn r.log.ents := ⟨_, rfl⟩
  rw [← hS, ← hST, ← hn, ← hZ] at hrun
  rw [← hN, ← hT, ← hS, ← hST, ← hn] at hW ⊢
  rw [← hZ]
  have HRUN : Hid _ := hrun
  have HB : Hid _ := hb
  clear hrun hb hs hat hN hT hS hST hn hZ
  go_enter Try.func54, Try.ntmps54
  go_wp2_with fail
  rw [← hW]
  clear hW
  refine Calls.mono HRUN.out ?_
  rintro e w1 ⟨x, rfl, hx, hb1⟩
  have HB1 : Hid (Below w.heap.size w w1) := HB.out.trans (hb1.mono HB.out.size)
  have HX : Hid (Left left Z x) := hx
  clear hb1 HRUN HB
  rcases hx with ⟨hx1, hx2⟩ | ⟨hx1, hx2⟩
  · have hn : ¬ x < 0 := by omega
    clear hx1 hx2
    go_wp2
    go_ret
    exact ⟨x, rfl, HX.out, HB1.out⟩
  · have hn : x < 0 := by omega
    have HE : Hid (x = -1) := hx2
    clear hx1 hx2
    go_wp2
    go_ret
    exact ⟨-1, rfl, by rw [← HE.out]; exact HX.out, HB1.out⟩
theorem one_ld (N T S ST : Int) (b : Option Addr) (n cb : Nat) : ∀ v ∈ (#[.int .i64 N, .int .i64 T, .int .i64 S, .int .i64 ST, .slice b n cb] : Array Value).toList, v.oneCell' = true := by
  intro v hv
  simp at hv
  rcases hv with rfl | rfl | rfl | rfl | rfl <;> rfl
theorem one_lg (S ST : Int) (b : Option Addr) (n cb : Nat) : ∀ v ∈ (#[.int .i64 S, .int .i64 ST, .slice b n cb] : Array Value).toList, v.oneCell' = true := by
  intro v hv
  simp at hv
  rcases hv with rfl | rfl | rfl <;> rfl
theorem resToLd {w : World} {g : Nat} {A C : Array Value} (hg : w.heap[g]? = some (.cells C 104 (0, 0))) (hs : A.size = 5) {tmps : Array Value} (ht : tmps.getD 2 undef = .pointer (some ⟨g, 0, none⟩)) : (results Try.f55 tmps).run Try.prog (w.setRow g A) = .ok (.agg A) (w.setRow g A) := by
  have h := run_loadVar_agg (P := Try.prog) Try.isAgg104 Try.sizeOf104 (row_size (A := A) hg) hs
  have ht' : tmps[2]?.getD undef = .pointer (some ⟨g, 0, none⟩) := by simpa using ht
  simp [results, Try.results55, ht', asAddr, h]
/-- A leader's copy: its cells, with entries of the call's own. -/
def CopyLd (w : World) (r : LdL) (e : Ending) (w' : World) : Prop := ∃ g1, w.heap.size ≤ g1 ∧ e = .returned (lcV (lcOf r (some ⟨g1, 0, none⟩) r.log.ents.length)) ∧ EnAt w' (some ⟨g1, 0, none⟩) g1 0 r.log.ents ∧ Below w.heap.size w w'
set_option maxHeartbeats 2000000 in
set_option maxRecDepth 100000 in
theorem toLd1_is (c : LcL) (r : LdL) (hlen : r.log.ents.length ≤ 1048576) (w : World) (hf : OneLd w c r) :
    Calls Try.prog 55 #[lcV c] w (CopyLd w r) := by
  obtain ⟨b, gb, ob, cb, rfl, hat⟩ := hf
  rw [lcV_eq]
  obtain ⟨W, hW⟩ : ∃ W, W = ((w.alloc (Obj.cells #[.int .i64 r.node, .int .i64 r.term, .int .i64 r.log.start, .int .i64 r.log.sterm, .slice b r.log.ents.length cb] 102)).alloc (Obj.cells #[.int .i64 0, .int .i64 0, .int .i64 0, .int .i64 0, .slice none 0 0] 104)).alloc (Obj.cells #[.int .i64 r.node, .int .i64 r.term, .int .i64 0, .int .i64 0, .slice none 0 0] 104) := ⟨_, rfl⟩
  have hb : Below w.heap.size w W := by rw [hW]; exact (((Below.refl _ _).alloc (Nat.le_refl _) _).alloc (by simp) _).alloc (by simp; omega) _
  have hsz : W.heap.size = w.heap.size + 1 + 1 + 1 := by rw [hW]; simp
  have hz : W.heap[w.heap.size + 1]? = some (.cells #[.int .i64 0, .int .i64 0, .int .i64 0, .int .i64 0, .slice none 0 0] 104 (0, 0)) := by
    rw [hW, Below.heap_alloc _ _ _ (by simp)]
    have := heap_alloc_new (w.alloc (Obj.cells #[.int .i64 r.node, .int .i64 r.term, .int .i64 r.log.start, .int .i64 r.log.sterm, .slice b r.log.ents.length cb] 102)) (.cells #[.int .i64 0, .int .i64 0, .int .i64 0, .int .i64 0, .slice none 0 0] 104)
    simpa using this
  have hr : W.heap[w.heap.size + 1 + 1]? = some (.cells #[.int .i64 r.node, .int .i64 r.term, .int .i64 0, .int .i64 0, .slice none 0 0] 104 (0, 0)) := by
    rw [hW]
    have := heap_alloc_new ((w.alloc (Obj.cells #[.int .i64 r.node, .int .i64 r.term, .int .i64 r.log.start, .int .i64 r.log.sterm, .slice b r.log.ents.length cb] 102)).alloc (.cells #[.int .i64 0, .int .i64 0, .int .i64 0, .int .i64 0, .slice none 0 0] 104)) (.cells #[.int .i64 r.node, .int .i64 r.term, .int .i64 0, .int .i64 0, .slice none 0 0] 104)
    simpa using this
  have hrun := toLog_any (cap := cb) r.log hlen W (hat.kept hb)
  have HRES : Hid (∀ g1, lcV (lcOf r (some ⟨g1, 0, none⟩) r.log.ents.length) = .agg #[.int .i64 r.node, .int .i64 r.term, .int .i64 r.log.start, .int .i64 r.log.sterm, .slice (some ⟨g1, 0, none⟩) r.log.ents.length r.log.ents.length]) := fun g1 => lcV_eq _ _ _
  rw [logV_eq] at hrun
  simp only [logV_eq] at hrun
  obtain ⟨L, hL⟩ : ∃ L, L = r.log.ents := ⟨_, rfl⟩
  have HLR : Hid (L = r.log.ents) := hL
  obtain ⟨N, hN⟩ : ∃ N, N = r.node := ⟨_, rfl⟩
  obtain ⟨T, hT⟩ : ∃ T, T = r.term := ⟨_, rfl⟩
  obtain ⟨S, hS⟩ : ∃ S, S = r.log.start := ⟨_, rfl⟩
  obtain ⟨ST, hST⟩ : ∃ ST, ST = r.log.sterm := ⟨_, rfl⟩
  obtain ⟨n, hn⟩ : ∃ n, n = r.log.ents.length := ⟨_, rfl⟩
  have HNL : Hid (n = L.length) := by show _ = _; rw [hn, hL]
  rw [← hS, ← hST, ← hn, ← hL] at hrun
  rw [← hN, ← hT, ← hS, ← hST, ← hn] at HRES
  rw [← hN, ← hT, ← hS, ← hST, ← hn] at hW
  rw [← hN, ← hT, ← hS, ← hST, ← hn]
  rw [← hN, ← hT] at hr
  have HRUN : Hid _ := hrun
  have HB : Hid _ := hb
  have HZ : Hid _ := hz
  have HR : Hid _ := hr
  have HSZ : Hid _ := hsz
  clear hrun hb hz hr hat hN hT hS hST hn hL hlen hsz
  go_enter Try.func55, Try.ntmps55
  go_wp2_with fail
  rw [← hW]
  clear hW
  refine Calls.mono HRUN.out ?_
  rintro e w1 ⟨g1, rfl, hown, hb1⟩
  have hg1 := (hown.lt g1 rfl).1
  have HG : Hid (w.heap.size + 1 + 1 + 1 ≤ g1) := by show _ ≤ _; have := HSZ.out; omega
  have HEN : Hid (EnAt w1 (some ⟨g1, 0, none⟩) g1 0 L) := by
    have hown' : w1.ownsRow W.heap.size 27 3 (.slice (some ⟨g1, 0, none⟩) L.length L.length) L.length (cellsEn L) := by rw [← HNL.out]; exact hown
    exact cellsEn_own rfl hown'
  have HB1 : Hid (Below w.heap.size w w1) := HB.out.trans (hb1.mono HB.out.size)
  have HZ1 : Hid _ := (hb1.block _ (Array.getElem?_eq_some_iff.1 HZ.out).1).trans HZ.out
  have HR0 : Hid (w1.heap[w.heap.size + 1 + 1]? = some (.cells #[.int .i64 N, .int .i64 T, .int .i64 0, .int .i64 0, .slice none 0 0] 104 (0, 0))) := (hb1.block _ (Array.getElem?_eq_some_iff.1 HR.out).1).trans HR.out
  have HR1 : Hid ((w1.setRow (w.heap.size + 1 + 1) #[.int .i64 N, .int .i64 T, .int .i64 S, .int .i64 ST, .slice (some ⟨g1, 0, none⟩) n n]).heap[w.heap.size + 1 + 1]? = some (.cells #[.int .i64 N, .int .i64 T, .int .i64 S, .int .i64 ST, .slice (some ⟨g1, 0, none⟩) n n] 104 (0, 0))) := row_size HR0.out
  have HZ3 : Hid ((w1.setRow (w.heap.size + 1 + 1) #[.int .i64 N, .int .i64 T, .int .i64 S, .int .i64 ST, .slice (some ⟨g1, 0, none⟩) n n]).heap[w.heap.size + 1]? = some (.cells #[.int .i64 0, .int .i64 0, .int .i64 0, .int .i64 0, .slice none 0 0] 104 (0, 0))) := row_far (R := w.heap.size + 1 + 1) HZ1.out (by omega) _
  clear hb1 hown hg1 HB HZ HR HRUN
  go_wp2_with (first | (refine wpList_put (n := 3) Try.sizeOf32 rfl _ _ rfl (w.heap.size + 1 + 1) 2 (.agg #[.int .i64 S, .int .i64 ST, .slice (some ⟨g1, 0, none⟩) n n]) #[.int .i64 S, .int .i64 ST, .slice (some ⟨g1, 0, none⟩) n n] #[.int .i64 N, .int .i64 T, .int .i64 0, .int .i64 0, .slice none 0 0] #[.int .i64 N, .int .i64 T, .int .i64 S, .int .i64 ST, .slice (some ⟨g1, 0, none⟩) n n] 104 rfl rfl rfl HR0.out rfl (by simp) (one_lg _ _ _ _ _) rfl ?_) | (refine wpList_loadA Try.isAgg104 Try.sizeOf104 rfl _ rfl (w.heap.size + 1 + 1) #[.int .i64 N, .int .i64 T, .int .i64 S, .int .i64 ST, .slice (some ⟨g1, 0, none⟩) n n] 104 rfl HR1.out rfl ?_) | (refine wpList_storeA Try.sizeOf104 rfl _ _ rfl (w.heap.size + 1) #[.int .i64 N, .int .i64 T, .int .i64 S, .int .i64 ST, .slice (some ⟨g1, 0, none⟩) n n] #[.int .i64 0, .int .i64 0, .int .i64 0, .int .i64 0, .slice none 0 0] 104 rfl rfl HZ3.out rfl rfl (one_ld _ _ _ _ _ _ _) ?_) | fail)
  refine bodyPost_ret (v := .agg #[.int .i64 N, .int .i64 T, .int .i64 S, .int .i64 ST, .slice (some ⟨g1, 0, none⟩) n n]) (resToLd HZ3.out rfl rfl) rfl ⟨g1, by have := HG.out; omega, by rw [← HLR.out, ← HNL.out, HRES.out], ?_, below_setRow (below_setRow HB1.out (by omega) _) (by omega) _⟩
  rw [← HLR.out]
  have hG := HG.out
  refine ⟨HEN.out.1, fun j hj => ?_⟩
  obtain ⟨d0, d1, d2⟩ := HEN.out.2 j hj
  have far : ∀ (p : Addr) (v : Value), p.block = g1 → w1.cell? p = some v → ((w1.setRow (w.heap.size + 1 + 1) #[.int .i64 N, .int .i64 T, .int .i64 S, .int .i64 ST, .slice (some ⟨g1, 0, none⟩) n n]).setRow (w.heap.size + 1) #[.int .i64 N, .int .i64 T, .int .i64 S, .int .i64 ST, .slice (some ⟨g1, 0, none⟩) n n]).cell? p = some v := fun p v hp hv =>
    (grown_setRow _ (w.heap.size + 1) _).cell ((grown_setRow w1 (w.heap.size + 1 + 1) _).cell hv (fun e => by have := Option.some.inj e; omega)) (fun e => by have := Option.some.inj e; omega)
  exact ⟨far _ _ rfl d0, far _ _ rfl d1, far _ _ rfl d2⟩
set_option maxHeartbeats 2000000 in
set_option maxRecDepth 100000 in
theorem eqLd1_same (c d : LcL) (r : LdL) (hlen : r.log.ents.length ≤ 1048576) (w : World) (hc : OneLd w c r) (hd : OneLd w d r) : Calls Try.prog 59 #[lcV c, lcV d] w fun e w' => e = .returned (.bool true) ∧ Below w.heap.size w w' := by
  obtain ⟨b, gb, ob, cb, rfl, hat⟩ := hc
  obtain ⟨b', gb', ob', cb', rfl, hat'⟩ := hd
  rw [lcV_eq, lcV_eq]
  have hrun : ∀ X, Below w.heap.size w X → Calls Try.prog 13 #[logV r.log b cb, logV r.log b' cb'] X fun e w' => e = .returned (.bool true) ∧ Below X.heap.size X w' := fun X h => eqLog_same r.log hlen X (hat.kept h) (hat'.kept h)
  simp only [logV_eq] at hrun
  obtain ⟨N, hN⟩ : ∃ N, N = r.node := ⟨_, rfl⟩
  obtain ⟨T, hT⟩ : ∃ T, T = r.term := ⟨_, rfl⟩
  obtain ⟨S, hS⟩ : ∃ S, S = r.log.start := ⟨_, rfl⟩
  obtain ⟨ST, hST⟩ : ∃ ST, ST = r.log.sterm := ⟨_, rfl⟩
  obtain ⟨n, hn⟩ : ∃ n, n = r.log.ents.length := ⟨_, rfl⟩
  rw [← hS, ← hST, ← hn] at hrun
  rw [← hN, ← hT, ← hS, ← hST, ← hn]
  have HRUN : Hid _ := hrun
  clear hrun hat hat' hN hT hS hST hn hlen
  go_enter Try.func59, Try.ntmps59
  go_wp2_with fail
  refine Calls.mono (HRUN.out _ (((Below.refl _ _).alloc (Nat.le_refl _) _).alloc (by simp) _)) ?_
  rintro e w1 ⟨rfl, hb1⟩
  have hB : Below w.heap.size w w1 := (((Below.refl _ _).alloc (Nat.le_refl _) _).alloc (by simp) _).trans (hb1.mono (by simp; omega))
  clear hb1
  go_wp2
  go_ret
  exact ⟨rfl, hB⟩
end Go.Proofs.Ytddmogggdckneaa
