/- EntryAt of the specification and of the program, walked. -/
import Derived.Test.YtddmogggdckneaaLogArg
import Derived.Test.YtddmogggdckneaaSpecBehind
import Derived.Test.YtddmogggdckneaaImplLog
import Derived.Test.YtddmogggdckneaaSealA
import Derived.Deep.RegionHeld3
namespace Go.Proofs.Ytddmogggdckneaa
open Go.RowKit
open Logs (okL)
set_option linter.unusedVariables false
set_option linter.unusedSimpArgs false

/-- Whether a log that is right has an entry of this index. -/
def entB (l : LogL) (i : Int) : Bool := okL l && (decide (l.start < i) && decide (i ≤ l.start + (l.ents.length : Int)))
/-- The entry of this index, or an empty one. -/
def entD (l : LogL) (i : Int) : EntL := if entB l i then (l.ents[(i - l.start - 1).toNat]?).getD ⟨0, 0, ⟨#[]⟩⟩ else ⟨0, 0, ⟨#[]⟩⟩
theorem okL_start {l : LogL} (h : okL l = true) : 0 ≤ l.start ∧ l.start ≤ 100000 ∧ l.ents.length ≤ 120 := by
  unfold okL Logs.inB at h
  simp at h
  omega
theorem ent_one (e : EntL) : ∀ v ∈ (#[.int .i64 e.term, .int .i64 e.kind, .string e.data] : Array Value).toList, v.oneCell' = true := by
  intro v hv
  simp at hv
  rcases hv with rfl | rfl | rfl <;> rfl
theorem one_ent (x y : Int) (s : ByteArray) : ∀ v ∈ (#[.int .i64 x, .int .i64 y, .string s] : Array Value).toList, v.oneCell' = true := by
  intro v hv
  simp at hv
  rcases hv with rfl | rfl | rfl <;> rfl
theorem resultE {w : World} {g : Nat} {A C : Array Value} (hg : w.heap[g]? = some (.cells C 27 (0, 0))) (hs : A.size = 3) {tmps : Array Value} (ht : tmps.getD 4 undef = .pointer (some ⟨g, 0, none⟩)) {b : Bool} (hb : tmps.getD 5 undef = .bool b) : (results Try.f9 tmps).run Try.prog (w.setRow g A) = .ok (.tuple #[.agg A, .bool b]) (w.setRow g A) := by
  have h := run_loadVar_agg (P := Try.prog) Try.isAgg27 Try.sizeOf27 (row_size (A := A) hg) hs
  have ht' : tmps[4]?.getD undef = .pointer (some ⟨g, 0, none⟩) := by simpa using ht
  have hb' : tmps[5]?.getD undef = .bool b := by simpa using hb
  simp [results, Try.results9, ht', hb', asAddr, h]
set_option maxHeartbeats 2000000 in
set_option maxRecDepth 100000 in
theorem specEntryAt_is {a : Option Addr} {g off cap : Nat} (l : LogL) (hlen : l.ents.length ≤ 1048576) (hd : ∀ e ∈ l.ents, e.data.size ≤ 1048576) (i : Int) (hi : -9223372036854775808 ≤ i ∧ i ≤ 9223372036854775807) (w : World) (hf : EnAt w a g off l.ents) :
    Calls Try.prog 9 #[logV l a cap, .int .i64 i] w fun en w' => en = .returned (.tuple #[entV (entD l i), .bool (entB l i)]) ∧ Below w.heap.size w w' := by
  unfold logV
  obtain ⟨W, hW⟩ : ∃ W, W = (w.alloc (Obj.cells #[.int .i64 l.start, .int .i64 l.sterm, .slice a l.ents.length cap] 32)).alloc (Obj.cells #[.int .i64 0, .int .i64 0, .string ⟨#[]⟩] 27) := ⟨_, rfl⟩
  have hb : Below w.heap.size w W := by rw [hW]; exact ((Below.refl _ _).alloc (Nat.le_refl _) _).alloc (by simp) _
  have HB : Hid (Below w.heap.size w W) := hb
  have hla : LogAt W w.heap.size l a cap := by rw [hW]; exact (LogAt.new w l a cap 32).kept ((Below.refl _ _).alloc (by simp) _)
  have HEN : Hid (EnAt W a g off l.ents) := hf.kept hb
  have HZ : Hid (W.heap[w.heap.size + 1]? = some (.cells #[.int .i64 0, .int .i64 0, .string ⟨#[]⟩] 27 (0, 0))) := by
    show _ = _
    have := heap_alloc_new (w.alloc (Obj.cells #[.int .i64 l.start, .int .i64 l.sterm, .slice a l.ents.length cap] 32)) (.cells #[.int .i64 0, .int .i64 0, .string ⟨#[]⟩] 27)
    rw [hW]
    simpa using this
  have HLA : Hid (LogAt W w.heap.size l a cap) := hla
  obtain ⟨c0, c1, c2⟩ := hla
  rw [hW] at c0 c1 c2
  obtain ⟨O, hO⟩ : ∃ O, O = okL l := ⟨_, rfl⟩
  have HO : Hid (O = okL l) := hO
  have HSP : Hid (Calls Try.prog 34 #[logV l a cap] W fun en w' => en = .returned (.bool O) ∧ Below W.heap.size W w') := by rw [hO]; exact specLogOk_is l hlen hd W HEN.out
  have HLI : Hid (∀ X, Calls Try.prog 35 #[logV l a cap] X fun en w' => en = .returned (.int .i64 (lastI l)) ∧ Below X.heap.size X w') := fun X => specLastI_is l hlen X
  unfold logV at HSP HLI
  clear hf hb hO hd
  go_enter Try.func9, Try.ntmps9
  go_wp2_with fail
  rw [← hW]
  clear hW c0 c1 c2
  refine Calls.mono HSP.out ?_
  rintro e w1 ⟨rfl, hb1⟩
  have HB1 : Hid (Below w.heap.size w w1) := HB.out.trans (hb1.mono HB.out.size)
  have HEN1 : Hid (EnAt w1 a g off l.ents) := HEN.out.kept hb1
  have HZ1 : Hid (w1.heap[w.heap.size + 1]? = some (.cells #[.int .i64 0, .int .i64 0, .string ⟨#[]⟩] 27 (0, 0))) := (hb1.block _ (Array.getElem?_eq_some_iff.1 HZ.out).1).trans HZ.out
  have HLA1 : Hid (LogAt w1 w.heap.size l a cap) := HLA.out.kept hb1
  obtain ⟨c0, c1, c2⟩ := HLA1.out
  clear hb1 HB HEN HLA HSP
  cases O with
  | false =>
    have HN : Hid (entB l i = false) := by show _ = _; unfold entB; rw [← HO.out]; rfl
    go_wp2_with (first | (refine wpList_storeA Try.sizeOf27 rfl _ _ rfl (w.heap.size + 1) #[.int .i64 0, .int .i64 0, .string ⟨#[]⟩] #[.int .i64 0, .int .i64 0, .string ⟨#[]⟩] 27 rfl rfl HZ1.out rfl rfl (one_ent _ _ _) ?_) | fail)
    refine bodyPost_ret (v := .tuple #[.agg #[_, _, _], .bool _]) (resultE HZ1.out rfl rfl rfl) rfl ⟨by unfold entD; rw [HN.out]; rfl, below_setRow HB1.out (by omega) _⟩
  | true =>
  obtain ⟨s0, s1, s2⟩ := okL_start HO.out.symm
  have HL : Hid (lastI l = l.start + (l.ents.length : Int)) := by show _ = _; unfold lastI wrap64; omega
  by_cases h1 : i ≤ l.start
  · have HN : Hid (entB l i = false) := by show _ = _; unfold entB; simp; intros; omega
    go_wp2_with (first | (refine wpList_storeA Try.sizeOf27 rfl _ _ rfl (w.heap.size + 1) #[.int .i64 0, .int .i64 0, .string ⟨#[]⟩] #[.int .i64 0, .int .i64 0, .string ⟨#[]⟩] 27 rfl rfl HZ1.out rfl rfl (one_ent _ _ _) ?_) | fail)
    refine bodyPost_ret (v := .tuple #[.agg #[_, _, _], .bool _]) (resultE HZ1.out rfl rfl rfl) rfl ⟨by unfold entD; rw [HN.out]; rfl, below_setRow HB1.out (by omega) _⟩
  · go_wp2_with fail
    refine Calls.mono (HLI.out _) ?_
    rintro e w2 ⟨rfl, hb2⟩
    rw [HL.out]
    have HB2 : Hid (Below w.heap.size w w2) := HB1.out.trans (hb2.mono HB1.out.size)
    have HEN2 : Hid (EnAt w2 a g off l.ents) := HEN1.out.kept hb2
    have HZ2 : Hid (w2.heap[w.heap.size + 1]? = some (.cells #[.int .i64 0, .int .i64 0, .string ⟨#[]⟩] 27 (0, 0))) := (hb2.block _ (Array.getElem?_eq_some_iff.1 HZ1.out).1).trans HZ1.out
    have HLA2 := HLA1.out.kept hb2
    clear c0 c1 c2
    obtain ⟨c0, c1, c2⟩ := HLA2
    clear hb2 HB1 HEN1 HLA1 HLI
    by_cases h2 : l.start + (l.ents.length : Int) < i
    · have HN : Hid (entB l i = false) := by show _ = _; unfold entB; simp; intros; omega
      go_wp2_with (first | (refine wpList_storeA Try.sizeOf27 rfl _ _ rfl (w.heap.size + 1) #[.int .i64 0, .int .i64 0, .string ⟨#[]⟩] #[.int .i64 0, .int .i64 0, .string ⟨#[]⟩] 27 rfl rfl HZ2.out rfl rfl (one_ent _ _ _) ?_) | fail)
      refine bodyPost_ret (v := .tuple #[.agg #[_, _, _], .bool _]) (resultE HZ2.out rfl rfl rfl) rfl ⟨by unfold entD; rw [HN.out]; rfl, below_setRow HB2.out (by omega) _⟩
    · have HN : Hid (entB l i = true) := by show _ = _; unfold entB; rw [← HO.out]; simp; omega
      obtain ⟨k, hk⟩ : ∃ k : Nat, i - l.start - 1 = (k : Int) := ⟨(i - l.start - 1).toNat, by omega⟩
      have hkl : k < l.ents.length := by omega
      have HD : Hid (entD l i = l.ents[k]) := by show _ = _; unfold entD; rw [HN.out, if_pos rfl, hk, Int.toNat_natCast, List.getElem?_eq_getElem hkl]; rfl
      have ea := HEN2.out.1 (by omega)
      obtain ⟨g0, g1, g2⟩ := HEN2.out.2 k hkl
      obtain ⟨e0, he0⟩ : ∃ e0, e0 = l.ents[k].term := ⟨_, rfl⟩
      obtain ⟨e1, he1⟩ : ∃ e1, e1 = l.ents[k].kind := ⟨_, rfl⟩
      obtain ⟨e2, he2⟩ : ∃ e2, e2 = l.ents[k].data := ⟨_, rfl⟩
      have HE : Hid (entV l.ents[k] = .agg #[.int .i64 e0, .int .i64 e1, .string e2]) := by show _ = _; rw [he0, he1, he2]; rfl
      rw [← he0] at g0
      rw [← he1] at g1
      rw [← he2] at g2
      subst ea
      have k0 : (0 : Int) ≤ (k : Int) := by omega
      have k1 : (k : Int) < (l.ents.length : Int) := by omega
      have d0 : 0 ≤ i - l.start := by omega
      have d1 : i - l.start ≤ 9223372036854775807 := by omega
      have dm : i - l.start ≤ 1048576 := by omega
      have dp : 1 ≤ i - l.start := by omega
      clear he0 he1 he2 HEN2
      go_wp2_with (first | (refine wpList_storeA Try.sizeOf27 rfl _ _ rfl (w.heap.size + 1) #[.int .i64 e0, .int .i64 e1, .string e2] #[.int .i64 0, .int .i64 0, .string ⟨#[]⟩] 27 rfl rfl HZ2.out rfl rfl (one_ent _ _ _) ?_) | fail)
      refine bodyPost_ret (v := .tuple #[.agg #[_, _, _], .bool _]) (resultE HZ2.out rfl rfl rfl) rfl ⟨by rw [HN.out, HD.out, HE.out], below_setRow HB2.out (by omega) _⟩

theorem resultOne {w : World} {g : Nat} {A C : Array Value} (hg : w.heap[g]? = some (.cells C 27 (0, 0))) (hs : A.size = 3) {tmps : Array Value} (ht : tmps.getD 4 undef = .pointer (some ⟨g, 0, none⟩)) : (results Try.f39 tmps).run Try.prog (w.setRow g A) = .ok (.agg A) (w.setRow g A) := by
  have h := run_loadVar_agg (P := Try.prog) Try.isAgg27 Try.sizeOf27 (row_size (A := A) hg) hs
  have ht' : tmps[4]?.getD undef = .pointer (some ⟨g, 0, none⟩) := by simpa using ht
  simp [results, Try.results39, ht', asAddr, h]
set_option maxHeartbeats 2000000 in
set_option maxRecDepth 100000 in
theorem implEntry_is {a : Option Addr} {g off cap : Nat} (l : LogL) (hlen : l.ents.length ≤ 1048576) (hd : ∀ e ∈ l.ents, e.data.size ≤ 1048576) (i : Int) (k : Nat) (hk : i - l.start - 1 = (k : Int)) (hkl : k < l.ents.length) (hs : 0 ≤ l.start ∧ l.start ≤ 100000) (w : World) (hf : EnAt w a g off l.ents) :
    Calls Try.prog 39 #[logV l a cap, .int .i64 i] w fun en w' => en = .returned (entV l.ents[k]) ∧ Below w.heap.size w w' := by
  unfold logV
  obtain ⟨s0, s1⟩ := hs
  obtain ⟨W, hW⟩ : ∃ W, W = (w.alloc (Obj.cells #[.int .i64 l.start, .int .i64 l.sterm, .slice a l.ents.length cap] 32)).alloc (Obj.cells #[.int .i64 0, .int .i64 0, .string ⟨#[]⟩] 27) := ⟨_, rfl⟩
  have hb : Below w.heap.size w W := by rw [hW]; exact ((Below.refl _ _).alloc (Nat.le_refl _) _).alloc (by simp) _
  have HB : Hid (Below w.heap.size w W) := hb
  have hsz : W.heap.size = w.heap.size + 1 + 1 := by rw [hW]; simp
  have hla : LogAt W w.heap.size l a cap := by rw [hW]; exact (LogAt.new w l a cap 32).kept ((Below.refl _ _).alloc (by simp) _)
  have HEN : Hid (EnAt W a g off l.ents) := hf.kept hb
  have HZ : Hid (W.heap[w.heap.size + 1]? = some (.cells #[.int .i64 0, .int .i64 0, .string ⟨#[]⟩] 27 (0, 0))) := by
    show _ = _
    have := heap_alloc_new (w.alloc (Obj.cells #[.int .i64 l.start, .int .i64 l.sterm, .slice a l.ents.length cap] 32)) (.cells #[.int .i64 0, .int .i64 0, .string ⟨#[]⟩] 27)
    rw [hW]
    simpa using this
  obtain ⟨c0, c1, c2⟩ := hla
  obtain ⟨e0, he0⟩ : ∃ e0, e0 = l.ents[k].term := ⟨_, rfl⟩
  obtain ⟨e1, he1⟩ : ∃ e1, e1 = l.ents[k].kind := ⟨_, rfl⟩
  obtain ⟨e2, he2⟩ : ∃ e2, e2 = l.ents[k].data := ⟨_, rfl⟩
  have HE : Hid (entV l.ents[k] = .agg #[.int .i64 e0, .int .i64 e1, .string e2]) := by show _ = _; rw [he0, he1, he2]; rfl
  have he2s : e2.size ≤ 1048576 := by rw [he2]; exact hd _ (List.getElem_mem hkl)
  have HS2 : Hid (e2.size ≤ 1048576) := he2s
  have ea := HEN.out.1 (by omega)
  obtain ⟨g0, g1, g2⟩ := HEN.out.2 k hkl
  rw [← he0] at g0
  rw [← he1] at g1
  rw [← he2] at g2
  subst ea
  obtain ⟨n, hn⟩ : ∃ n, n = l.ents.length := ⟨_, rfl⟩
  rw [HE.out]
  rw [← hn] at hkl hlen
  have k0 : (0 : Int) ≤ (k : Int) := by omega
  have k1 : (k : Int) < (n : Int) := by omega
  have d0 : 0 ≤ i - l.start := by omega
  have d1 : i - l.start ≤ 9223372036854775807 := by omega
  have dm : i - l.start ≤ 1048576 := by omega
  have dp : 1 ≤ i - l.start := by omega
  rw [← hn] at c2 hW ⊢
  clear he0 he1 he2 HEN hf hb hd hn HE he2s
  go_enter Try.func39, Try.ntmps39
  go_wp2_with (first | (rw [← hW]; clear hW) | fail)
  obtain ⟨W2, hW2⟩ : ∃ W2, W2 = W.alloc (Obj.cells #[.int .i64 e0, .int .i64 e1, .string e2] 27) := ⟨_, rfl⟩
  rw [← hW2]
  have hb2 : Below W.heap.size W W2 := by rw [hW2]; exact (Below.refl _ _).alloc (Nat.le_refl _) _
  have hr2 : W2.heap[w.heap.size + 1 + 1]? = some (.cells #[.int .i64 e0, .int .i64 e1, .string e2] 27 (0, 0)) := by
    rw [hW2, ← hsz]; exact heap_alloc_new W _
  have HB2 : Hid (Below w.heap.size w W2) := HB.out.trans (hb2.mono HB.out.size)
  have hz2 := (hb2.block _ (Array.getElem?_eq_some_iff.1 HZ.out).1).trans HZ.out
  refine (clone_any e2 (by have := HS2.out; omega) W2).mono ?_
  rintro en w3 ⟨rfl, hb3⟩
  have HB3 : Hid (Below w.heap.size w w3) := HB2.out.trans (hb3.mono HB2.out.size)
  have HR3 : Hid (w3.heap[w.heap.size + 1 + 1]? = some (.cells #[.int .i64 e0, .int .i64 e1, .string e2] 27 (0, 0))) := (hb3.block _ (Array.getElem?_eq_some_iff.1 hr2).1).trans hr2
  have HZ3 : Hid (w3.heap[w.heap.size + 1]? = some (.cells #[.int .i64 0, .int .i64 0, .string ⟨#[]⟩] 27 (0, 0))) := (hb3.block _ (Array.getElem?_eq_some_iff.1 hz2).1).trans hz2
  clear hb2 hr2 hz2 hb3 hW2 c0 c1 c2 g0 g1 g2 HB HZ HB2
  have o2 := cell_of_row _ _ 2 _ _ _ HR3.out
  have of2 := frozen_of_row _ _ 2 _ _ HR3.out
  simp at o2
  have HR4 : Hid ((w3.setCell ⟨w.heap.size + 1 + 1, 2, none⟩ (.string e2)).heap[w.heap.size + 1 + 1]? = some (.cells #[.int .i64 e0, .int .i64 e1, .string e2] 27 (0, 0))) := by
    show _ = _
    have := heap_setCell_same w3 (w.heap.size + 1 + 1) 2 _ 27 (.string e2) HR3.out
    simpa using this
  have HZ4 : Hid ((w3.setCell ⟨w.heap.size + 1 + 1, 2, none⟩ (.string e2)).heap[w.heap.size + 1]? = some (.cells #[.int .i64 0, .int .i64 0, .string ⟨#[]⟩] 27 (0, 0))) := set_far HZ3.out (by omega) _ _
  go_wp2_with (first | (refine wpList_loadA Try.isAgg27 Try.sizeOf27 rfl _ rfl (w.heap.size + 1 + 1) #[.int .i64 e0, .int .i64 e1, .string e2] 27 rfl HR4.out rfl ?_) | (refine wpList_storeA Try.sizeOf27 rfl _ _ rfl (w.heap.size + 1) #[.int .i64 e0, .int .i64 e1, .string e2] #[.int .i64 0, .int .i64 0, .string ⟨#[]⟩] 27 rfl rfl HZ4.out rfl rfl (one_ent _ _ _) ?_) | fail)
  exact bodyPost_ret (resultOne HZ4.out rfl rfl) rfl ⟨rfl, below_setRow (HB3.out.setCell (by show w.heap.size ≤ w.heap.size + 1 + 1; omega) _) (by omega) _⟩

theorem resultI {w : World} {g : Nat} {A C : Array Value} (hg : w.heap[g]? = some (.cells C 27 (0, 0))) (hs : A.size = 3) {tmps : Array Value} (ht : tmps.getD 4 undef = .pointer (some ⟨g, 0, none⟩)) {b : Bool} (hb : tmps.getD 5 undef = .bool b) : (results Try.f11 tmps).run Try.prog (w.setRow g A) = .ok (.tuple #[.agg A, .bool b]) (w.setRow g A) := by
  have h := run_loadVar_agg (P := Try.prog) Try.isAgg27 Try.sizeOf27 (row_size (A := A) hg) hs
  have ht' : tmps[4]?.getD undef = .pointer (some ⟨g, 0, none⟩) := by simpa using ht
  have hb' : tmps[5]?.getD undef = .bool b := by simpa using hb
  simp [results, Try.results11, ht', hb', asAddr, h]
set_option maxHeartbeats 2000000 in
set_option maxRecDepth 100000 in
theorem implEntryAt_is {a : Option Addr} {g off cap : Nat} (l : LogL) (hlen : l.ents.length ≤ 1048576) (hd : ∀ e ∈ l.ents, e.data.size ≤ 1048576) (i : Int) (hi : -9223372036854775808 ≤ i ∧ i ≤ 9223372036854775807) (w : World) (hf : EnAt w a g off l.ents) :
    Calls Try.prog 11 #[logV l a cap, .int .i64 i] w fun en w' => en = .returned (.tuple #[entV (entD l i), .bool (entB l i)]) ∧ Below w.heap.size w w' := by
  have HEI : Hid (∀ (k : Nat) (hk : i - l.start - 1 = (k : Int)) (hkl : k < l.ents.length) (hs : 0 ≤ l.start ∧ l.start ≤ 100000) (X : World), EnAt X a g off l.ents → Calls Try.prog 39 #[logV l a cap, .int .i64 i] X fun en w' => en = .returned (entV l.ents[k]) ∧ Below X.heap.size X w') := fun k hk hkl hs X h => implEntry_is l hlen hd i k hk hkl hs X h
  unfold logV at HEI ⊢
  obtain ⟨W, hW⟩ : ∃ W, W = (w.alloc (Obj.cells #[.int .i64 l.start, .int .i64 l.sterm, .slice a l.ents.length cap] 32)).alloc (Obj.cells #[.int .i64 0, .int .i64 0, .string ⟨#[]⟩] 27) := ⟨_, rfl⟩
  have hb : Below w.heap.size w W := by rw [hW]; exact ((Below.refl _ _).alloc (Nat.le_refl _) _).alloc (by simp) _
  have HB : Hid (Below w.heap.size w W) := hb
  have hla : LogAt W w.heap.size l a cap := by rw [hW]; exact (LogAt.new w l a cap 32).kept ((Below.refl _ _).alloc (by simp) _)
  have HEN : Hid (EnAt W a g off l.ents) := hf.kept hb
  have HZ : Hid (W.heap[w.heap.size + 1]? = some (.cells #[.int .i64 0, .int .i64 0, .string ⟨#[]⟩] 27 (0, 0))) := by
    show _ = _
    have := heap_alloc_new (w.alloc (Obj.cells #[.int .i64 l.start, .int .i64 l.sterm, .slice a l.ents.length cap] 32)) (.cells #[.int .i64 0, .int .i64 0, .string ⟨#[]⟩] 27)
    rw [hW]
    simpa using this
  have HLA : Hid (LogAt W w.heap.size l a cap) := hla
  obtain ⟨c0, c1, c2⟩ := hla
  rw [hW] at c0 c1 c2
  obtain ⟨O, hO⟩ : ∃ O, O = okL l := ⟨_, rfl⟩
  have HO : Hid (O = okL l) := hO
  have HSP : Hid (∀ X, EnAt X a g off l.ents → Calls Try.prog 38 #[logV l a cap] X fun en w' => en = .returned (.bool O) ∧ Below X.heap.size X w') := fun X h => by rw [hO]; exact implLogOk_is l hlen hd X h
  obtain ⟨L, hL⟩ : ∃ L, L = (if l.ents.length = 0 then l.start else lastI l) := ⟨_, rfl⟩
  obtain ⟨LT, hLT⟩ : ∃ LT, LT = Logs.lastT l := ⟨_, rfl⟩
  have HLL : Hid (L = (if l.ents.length = 0 then l.start else lastI l)) := hL
  have HLI : Hid (∀ X, EnAt X a g off l.ents → Calls Try.prog 37 #[logV l a cap] X fun en w' => en = .returned (.tuple #[.int .i64 L, .int .i64 LT]) ∧ Below X.heap.size X w') := fun X h => by rw [hL, hLT]; exact implLast_is l hlen X h
  unfold logV at HSP HLI
  clear hf hb hO hd hL hLT
  go_enter Try.func11, Try.ntmps11
  go_wp2_with fail
  rw [← hW]
  clear hW c0 c1 c2
  refine Calls.mono (HLI.out _ HEN.out) ?_
  rintro e w0 ⟨rfl, hb0⟩
  have HB0 : Hid (Below w.heap.size w w0) := HB.out.trans (hb0.mono HB.out.size)
  have HEN0 : Hid (EnAt w0 a g off l.ents) := HEN.out.kept hb0
  have HZ0 : Hid (w0.heap[w.heap.size + 1]? = some (.cells #[.int .i64 0, .int .i64 0, .string ⟨#[]⟩] 27 (0, 0))) := (hb0.block _ (Array.getElem?_eq_some_iff.1 HZ.out).1).trans HZ.out
  have HLA0 : Hid (LogAt w0 w.heap.size l a cap) := HLA.out.kept hb0
  obtain ⟨c0, c1, c2⟩ := HLA0.out
  clear hb0 HB HEN HLA HZ HLI
  go_wp2_with fail
  refine Calls.mono (HSP.out _ HEN0.out) ?_
  rintro e w1 ⟨rfl, hb1⟩
  have HB1 : Hid (Below w.heap.size w w1) := HB0.out.trans (hb1.mono HB0.out.size)
  have HEN1 : Hid (EnAt w1 a g off l.ents) := HEN0.out.kept hb1
  have HZ1 : Hid (w1.heap[w.heap.size + 1]? = some (.cells #[.int .i64 0, .int .i64 0, .string ⟨#[]⟩] 27 (0, 0))) := (hb1.block _ (Array.getElem?_eq_some_iff.1 HZ0.out).1).trans HZ0.out
  have HLA1 : Hid (LogAt w1 w.heap.size l a cap) := HLA0.out.kept hb1
  clear c0 c1 c2
  obtain ⟨c0, c1, c2⟩ := HLA1.out
  clear hb1 HB0 HEN0 HLA0 HZ0 HSP
  cases O with
  | false =>
    have HN : Hid (entB l i = false) := by show _ = _; unfold entB; rw [← HO.out]; rfl
    go_wp2_with (first | (refine wpList_storeA Try.sizeOf27 rfl _ _ rfl (w.heap.size + 1) #[.int .i64 0, .int .i64 0, .string ⟨#[]⟩] #[.int .i64 0, .int .i64 0, .string ⟨#[]⟩] 27 rfl rfl HZ1.out rfl rfl (one_ent _ _ _) ?_) | fail)
    refine bodyPost_ret (v := .tuple #[.agg #[_, _, _], .bool _]) (resultI HZ1.out rfl rfl rfl) rfl ⟨by unfold entD; rw [HN.out]; rfl, below_setRow HB1.out (by omega) _⟩
  | true =>
  obtain ⟨s0, s1, s2⟩ := okL_start HO.out.symm
  have hLv : L = l.start + (l.ents.length : Int) := by rw [HLL.out]; split <;> (first | omega | (unfold lastI wrap64; omega))
  subst hLv
  by_cases h1 : i ≤ l.start
  · have HN : Hid (entB l i = false) := by show _ = _; unfold entB; simp; intros; omega
    go_wp2_with (first | (refine wpList_storeA Try.sizeOf27 rfl _ _ rfl (w.heap.size + 1) #[.int .i64 0, .int .i64 0, .string ⟨#[]⟩] #[.int .i64 0, .int .i64 0, .string ⟨#[]⟩] 27 rfl rfl HZ1.out rfl rfl (one_ent _ _ _) ?_) | fail)
    refine bodyPost_ret (v := .tuple #[.agg #[_, _, _], .bool _]) (resultI HZ1.out rfl rfl rfl) rfl ⟨by unfold entD; rw [HN.out]; rfl, below_setRow HB1.out (by omega) _⟩
  · by_cases h2 : l.start + (l.ents.length : Int) < i
    · have HN : Hid (entB l i = false) := by show _ = _; unfold entB; simp; intros; omega
      go_wp2_with (first | (refine wpList_storeA Try.sizeOf27 rfl _ _ rfl (w.heap.size + 1) #[.int .i64 0, .int .i64 0, .string ⟨#[]⟩] #[.int .i64 0, .int .i64 0, .string ⟨#[]⟩] 27 rfl rfl HZ1.out rfl rfl (one_ent _ _ _) ?_) | fail)
      refine bodyPost_ret (v := .tuple #[.agg #[_, _, _], .bool _]) (resultI HZ1.out rfl rfl rfl) rfl ⟨by unfold entD; rw [HN.out]; rfl, below_setRow HB1.out (by omega) _⟩
    · have HN : Hid (entB l i = true) := by show _ = _; unfold entB; rw [← HO.out]; simp; omega
      obtain ⟨k, hk⟩ : ∃ k : Nat, i - l.start - 1 = (k : Int) := ⟨(i - l.start - 1).toNat, by omega⟩
      have hkl : k < l.ents.length := by omega
      have HD : Hid (entD l i = l.ents[k]) := by show _ = _; unfold entD; rw [HN.out, if_pos rfl, hk, Int.toNat_natCast, List.getElem?_eq_getElem hkl]; rfl
      have HEK : Hid (∀ X, EnAt X a g off l.ents → Calls Try.prog 39 #[.agg #[.int .i64 l.start, .int .i64 l.sterm, .slice a l.ents.length cap], .int .i64 i] X fun en w' => en = .returned (entV l.ents[k]) ∧ Below X.heap.size X w') := HEI.out k hk hkl ⟨s0, s1⟩
      obtain ⟨e0, he0⟩ : ∃ e0, e0 = l.ents[k].term := ⟨_, rfl⟩
      obtain ⟨e1, he1⟩ : ∃ e1, e1 = l.ents[k].kind := ⟨_, rfl⟩
      obtain ⟨e2, he2⟩ : ∃ e2, e2 = l.ents[k].data := ⟨_, rfl⟩
      have HE : Hid (entV l.ents[k] = .agg #[.int .i64 e0, .int .i64 e1, .string e2]) := by show _ = _; rw [he0, he1, he2]; rfl
      rw [HE.out] at HEK
      clear he0 he1 he2 HEI HLL
      go_wp2_with (first | (go_at_call 39; fail) | fail)
      refine Calls.mono (HEK.out _ HEN1.out) ?_
      rintro e w2 ⟨rfl, hb2⟩
      have HB2 : Hid (Below w.heap.size w w2) := HB1.out.trans (hb2.mono HB1.out.size)
      have HZ2 : Hid (w2.heap[w.heap.size + 1]? = some (.cells #[.int .i64 0, .int .i64 0, .string ⟨#[]⟩] 27 (0, 0))) := (hb2.block _ (Array.getElem?_eq_some_iff.1 HZ1.out).1).trans HZ1.out
      clear c0 c1 c2
      go_wp2_with (first | (refine wpList_storeA Try.sizeOf27 rfl _ _ rfl (w.heap.size + 1) #[.int .i64 e0, .int .i64 e1, .string e2] #[.int .i64 0, .int .i64 0, .string ⟨#[]⟩] 27 rfl rfl HZ2.out rfl rfl (one_ent _ _ _) ?_) | fail)
      refine bodyPost_ret (v := .tuple #[.agg #[_, _, _], .bool _]) (resultI HZ2.out rfl rfl rfl) rfl ⟨by rw [HN.out, HD.out, HE.out], below_setRow HB2.out (by omega) _⟩
end Go.Proofs.Ytddmogggdckneaa
