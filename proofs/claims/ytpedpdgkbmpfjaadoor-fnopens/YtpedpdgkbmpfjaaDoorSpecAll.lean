/- The specification's l15Sessions, walked. Made by program (SpecAll.py). -/
import Derived.Test.YtpedpdgkbmpfjaaDoorSpecOpen
import Derived.Test.YtpedpdgkbmpfjaaDoorSesOf
namespace Go.Proofs.YtpedpdgkbmpfjaaDoor
open Go.RowKit
open Acts (decS skey sval nkey kkey sess parse Enc get nextN least pickL findS leftM openM openR)
set_option linter.unusedVariables false
set_option linter.unusedSimpArgs false
theorem AllS.nil : AllS ([] : List PairL) [] := ⟨fun s => Iff.rfl, rfl, fun p q hp _ _ => by simp at hp⟩
theorem AllS.skip {m : List PairL} {L : List Ses} {k : Nat} (hk : k < m.length) (hp : parse m[k] = none) (h : AllS (m.take k) L) : AllS (m.take (k + 1)) L := by
  have e : sess (m.take (k + 1)) = sess (m.take k) := by rw [sess_take hk hp]; simp
  exact ⟨fun s => by rw [e]; exact h.mem s, by rw [e]; exact h.len, h.asc⟩
theorem sess_new {T : Nat} {m : List PairL} (hT : T ≤ 90) (h : Maps.Asc m) (he : ∀ p ∈ m, Enc T p) {k : Nat} (hk : k < m.length) {s t : Ses} (hq : m[k].key = skey s.id) (ht : t ∈ sess (m.take k)) : t.id ≠ s.id := by
  intro e
  obtain ⟨h1, _⟩ := Acts.mem_sess hT (fun p hp => he p (List.mem_of_mem_take hp)) ht
  obtain ⟨p, hp, hpe⟩ := List.mem_iff_getElem.1 h1
  have hpk : p < k := by rw [List.length_take] at hp; omega
  have hpe2 : m[p]'(by omega) = ⟨skey t.id, sval t⟩ := by rw [← hpe, List.getElem_take]
  have := (List.pairwise_iff_getElem.1 h) p k (by omega) hk hpk
  rw [hpe2, hq, e] at this
  rw [show Batches.lt (PairL.mk (skey s.id) (sval t)).key (skey s.id) = false from Batches.lt_irrefl _] at this
  cases this
theorem AllS.ins {T : Nat} {m : List PairL} (hT : T ≤ 90) (h : Maps.Asc m) (he : ∀ p ∈ m, Enc T p) {L : List Ses} {k : Nat} (hk : k < m.length) {s : Ses} (hp : parse m[k] = some s) (hq : m[k].key = skey s.id) (hA : AllS (m.take k) L) {j : Nat} (hj : j ≤ L.length) (h1 : ∀ (x : 0 < j), L[j - 1].id ≤ s.id) (h2 : ∀ q (hq : q < L.length), j ≤ q → s.id < L[q].id) : AllS (m.take (k + 1)) ((L.take j ++ [s]) ++ L.drop j) := by
  have e : sess (m.take (k + 1)) = sess (m.take k) ++ [s] := by rw [sess_take hk hp]; rfl
  have hne : ∀ q (hq : q < L.length), L[q].id ≠ s.id := fun q hq' => sess_new hT h he hk hq ((hA.mem _).1 (List.getElem_mem hq'))
  have hlo : ∀ q (hq : q < L.length), q < j → L[q].id < s.id := fun q hq' hqj => by
    have a := h1 (by omega)
    have b := hne (j - 1) (by omega)
    rcases Nat.lt_or_ge q (j - 1) with c | c
    · have := hA.asc q (j - 1) hq' (by omega) c; omega
    · have : q = j - 1 := by omega
      subst this; omega
  have hp1 : (List.take j L ++ [s] ++ List.drop j L).Pairwise fun x y => x.id < y.id := by
    have hL : L.Pairwise fun x y => x.id < y.id := List.pairwise_iff_getElem.2 fun p q hp hq hpq => hA.asc p q hp hq hpq
    rw [List.append_assoc, List.pairwise_append]
    refine ⟨hL.sublist (List.take_sublist _ _), ?_, ?_⟩
    · rw [List.singleton_append, List.pairwise_cons]
      refine ⟨fun x hx => ?_, hL.sublist (List.drop_sublist _ _)⟩
      obtain ⟨q, hq', rfl⟩ := List.mem_iff_getElem.1 hx
      rw [List.length_drop] at hq'
      rw [List.getElem_drop]
      exact h2 _ (by omega) (by omega)
    · intro x hx y hy
      obtain ⟨q, hq', rfl⟩ := List.mem_iff_getElem.1 hx
      rw [List.length_take] at hq'
      rw [List.getElem_take]
      have hxs := hlo q (by omega) (by omega)
      rw [List.singleton_append, List.mem_cons] at hy
      rcases hy with rfl | hy
      · exact hxs
      · obtain ⟨r, hr, rfl⟩ := List.mem_iff_getElem.1 hy
        rw [List.length_drop] at hr
        rw [List.getElem_drop]
        have := h2 (j + r) (by omega) (by omega)
        omega
  refine ⟨fun x => ?_, ?_, fun p q hp hq hpq => (List.pairwise_iff_getElem.1 hp1) p q hp hq hpq⟩
  · rw [e, List.mem_append, List.mem_append, List.mem_append (s := sess _), ← hA.mem]
    constructor
    · rintro ((a | a) | a)
      · exact Or.inl (List.mem_of_mem_take a)
      · exact Or.inr a
      · exact Or.inl (List.mem_of_mem_drop a)
    · rintro (a | a)
      · rw [← List.take_append_drop j L, List.mem_append] at a
        rcases a with a | a
        · exact Or.inl (Or.inl a)
        · exact Or.inr a
      · exact Or.inl (Or.inr a)
  · have hl := hA.len; rw [e]; simp; omega
def SBox (s : Ses) : Obj := Obj.cells #[.int .i64 (s.id : Int), .int .i64 (s.seq : Int), .int .i64 (s.at_ : Int), .string s.rep] 58
theorem spe_lies {w : World} (s : Ses) : SpeAt (w.alloc (SBox s)) (some ⟨w.heap.size, 0, none⟩) w.heap.size 0 [s] := by
  have p := heap_alloc_new w (SBox s)
  refine ⟨fun _ => rfl, fun j hj => ?_⟩
  have hj0 : j = 0 := by simp at hj; omega
  subst hj0
  exact ⟨cell_of_row _ _ 0 _ _ _ p, cell_of_row _ _ 1 _ _ _ p, cell_of_row _ _ 2 _ _ _ p, cell_of_row _ _ 3 _ _ _ p⟩
theorem SpeAt.take {w : World} {a : Option Addr} {g off : Nat} {l : List Ses} (h : SpeAt w a g off l) (k : Nat) : SpeAt w a g off (l.take k) := by
  refine ⟨fun hl => h.1 (by rw [List.length_take] at hl; omega), fun j hj => ?_⟩
  rw [List.length_take] at hj
  rw [List.getElem_take]
  exact h.2 j (by omega)
theorem SpeAt.drop {w : World} {a : Option Addr} {g off : Nat} {l : List Ses} (h : SpeAt w a g off l) (k : Nat) (hk : k ≤ l.length) : SpeAt w (some ⟨g, off + k * 4, none⟩) g (off + k * 4) (l.drop k) := by
  refine ⟨fun _ => rfl, fun j hj => ?_⟩
  rw [List.length_drop] at hj
  rw [List.getElem_drop]
  have q := h.2 (k + j) (by omega)
  have e : off + (k + j) * 4 = off + k * 4 + j * 4 := by omega
  rw [e] at q
  exact q
structure SSt (w : World) (v : Value) (L : List Ses) (W : World) : Prop where
  own : W.ownsRow w.heap.size 58 4 v L.length (cellsSpe L)
  bel : Below w.heap.size w W
theorem SSt.below {w W W' : World} {v : Value} {L : List Ses} (h : SSt w v L W) (hb : Below W.heap.size W W') : SSt w v L W' := ⟨own_kept h.own hb, h.bel.trans (hb.mono h.bel.size)⟩
theorem enc_size {T : Nat} {p : PairL} (h : Enc T p) : 0 < p.key.size := by
  have q : ∀ K : ByteArray, K.size = (Batches.by_ K).length := fun K => rfl
  rcases h with ⟨k, h1, _⟩ | ⟨n, h1, _⟩ | ⟨s, h1, _⟩
  · rw [h1, q, Acts.by_kkey]; simp
  · rw [h1, q, Acts.by_nkey]; simp
  · rw [h1, q, Acts.by_skey]; simp
theorem skey_rest (n : Nat) : (skey n).extract 1 (skey n).size = decS n := by
  have h := Acts.by_skey n
  have hz : (skey n).size = (Batches.by_ (skey n)).length := rfl
  apply Batches.by_inj
  rw [hz, h]
  unfold Batches.by_ at h ⊢
  rw [Words.extract_list, h]
  simp [decS]
theorem skey_first {n : Nat} (h : 0 < (skey n).size) : (skey n)[0] = 115 := by
  obtain ⟨h2, e2⟩ := byte_at (Acts.by_skey n) h
  rw [e2]; rfl
theorem key_ne {K : ByteArray} (h : 0 < K.size) (hh : (Batches.by_ K).head? ≠ some 115) : ¬ (K[0].toNat : Int) = 115 := by
  intro e
  apply hh
  obtain ⟨h2, e2⟩ := byte_at (rfl : Batches.by_ K = Batches.by_ K) h
  have e3 : K[0] = 115 := UInt8.toNat_inj.1 (by have q : K[0].toNat = 115 := (by omega); rw [q]; rfl)
  rw [List.head?_eq_getElem?, List.getElem?_eq_getElem h2, ← e2, e3]
set_option maxHeartbeats 4000000 in
set_option maxRecDepth 100000 in
theorem specAll_is {T : Nat} {a : Option Addr} {g off cap : Nat} (m : List PairL) (hT : T ≤ 60) (hlen : m.length ≤ 200) (hs : Maps.Asc m) (he : ∀ p ∈ m, Enc T p) (w : World) (hf : PairAt w a g off m) :
    Calls Tryd.prog 25 #[.slice a m.length cap] w fun e w' => ∃ v L, e = .returned (.tuple #[v, .bool true]) ∧ AllS m L ∧ w'.ownsRow w.heap.size 58 4 v L.length (cellsSpe L) ∧ Below w.heap.size w w' := by
  have HF : Hid (PairAt w a g off m) := hf
  have HE : Hid (∀ p ∈ m, Enc T p) := he
  have HS : Hid (Maps.Asc m) := hs
  clear hf he hs
  go_enter Tryd.func25, Tryd.ntmps25
  go_wp2_with fail
  go_loopw [5, 4] (fun i v wr => ∃ (k vg vc : Nat) (L : List Ses), k ≤ m.length ∧ i = .int .i64 (k : Int) ∧ v = .slice (some ⟨vg, 0, none⟩) L.length vc ∧ SSt w v L wr ∧ AllS (m.take k) L)
    (fun i _ _ => m.length - (intOf i).toNat)
  case atStart => exact ⟨0, w.heap.size, 0, [], Nat.zero_le _, rfl, rfl, ⟨own_empty (heap_alloc_new w _) (Nat.le_refl _), (Below.refl _ _).alloc (Nat.le_refl _) _⟩, AllS.nil⟩
  case round =>
    obtain ⟨k, vg, vc, L, hk, rfl, rfl, hst, hall⟩ := hrel
    have hat := cellsSpe_own rfl hst.own
    have hvc : L.length ≤ vc := by
      rcases hst.own.2 with ⟨e, _⟩ | ⟨g2, cap2, cur2, e, _, _, hc, _⟩
      · cases e
      · cases e; exact hc
    have HK : Hid (SSt w (.slice (some ⟨vg, 0, none⟩) L.length vc) L wr) := hst
    have HA : Hid (AllS (m.take k) L) := hall
    have HAT : Hid (SpeAt wr (some ⟨vg, 0, none⟩) vg 0 L) := hat
    clear hst hall hat
    by_cases hlt : k < m.length
    · obtain ⟨c0, c1⟩ := (HF.out.kept HK.out.bel).2 k hlt
      have ea := HF.out.1 (by omega)
      subst ea
      have hk0 : (0 : Int) ≤ (k : Int) := by omega
      have hk1 : (k : Int) < (m.length : Int) := by omega
      rcases Acts.enc_parse (by omega) (HE.out m[k] (List.getElem_mem _)) with ⟨hp, hh⟩ | ⟨s, hp, hq, h1, h2, h3, h4⟩
      · have HT : Hid (AllS (m.take (k + 1)) L) := HA.out.skip hlt hp
        obtain ⟨K, hK⟩ : ∃ K, K = m[k].key := ⟨_, rfl⟩
        have hz : 0 < K.size := by rw [hK]; exact enc_size (HE.out m[k] (List.getElem_mem _))
        rw [← hK] at c0 hh
        have hn := key_ne hz hh
        have hn2 : ((K[0].toNat : Int) != 115) = true := by simpa using hn
        have hz1 : (0 : Int) < (K.size : Int) := by omega
        clear hp hh hK
        go_wp2
        go_roundw
        case rel => exact ⟨k + 1, vg, vc, L, by omega, by go_num, rfl, HK.out.below (by first | exact Below.refl _ _ | exact (Below.refl _ _).alloc (Nat.le_refl _) _), HT.out⟩
        case measure => simp [intOf]; omega
      · have hkey : m[k].key = skey s.id := by rw [hq]
        have hval : m[k].value = sval s := by rw [hq]
        have HT : Hid (∀ j (hj : j ≤ L.length), (∀ x : 0 < j, L[j - 1].id ≤ s.id) → (∀ q (hq : q < L.length), j ≤ q → s.id < L[q].id) → AllS (m.take (k + 1)) ((L.take j ++ [s]) ++ L.drop j)) := fun j a b c => HA.out.ins (by omega) HS.out HE.out hlt hp hkey a b c
        have HLL : Hid (L.length ≤ 200) := by
          show _ ≤ _
          have := List.length_filterMap_le parse (m.take k)
          rw [List.length_take] at this
          rw [HA.out.len]
          unfold sess; omega
        rw [hkey] at c0
        rw [hval] at c1
        have HRD : Hid (∀ W, Calls Tryd.prog 49 #[.string ((skey s.id).extract 1 (skey s.id).size)] W fun e w' => e = .returned (.tuple #[.int .i64 (s.id : Int), .bool true]) ∧ Below W.heap.size W w') := fun W => by rw [skey_rest]; exact specRD_dec _ (by omega) W
        have HRR : Hid (∀ W, Calls Tryd.prog 50 #[.int .i64 (s.id : Int), .string (sval s)] W fun e w' => e = .returned (.tuple #[speV s, .bool true]) ∧ Below W.heap.size W w') := fun W => specRead_is s ⟨by omega, by omega, by omega⟩ (by omega) W
        unfold speV at HRR
        have hz : 0 < (skey s.id).size := by rw [← hkey]; exact enc_size (HE.out m[k] (List.getElem_mem _))
        have hz3 : (skey s.id)[0] = 115 := skey_first hz
        have hs100 : s.id ≤ 100 := by omega
        obtain ⟨K, hK⟩ : ∃ K, K = skey s.id := ⟨_, rfl⟩
        obtain ⟨U, hU⟩ : ∃ U, U = sval s := ⟨_, rfl⟩
        obtain ⟨I, hI⟩ : ∃ I, I = s.id := ⟨_, rfl⟩
        rw [← hU] at c1 HRR
        simp only [← hK] at c0 HRD hz hz3
        have hn2 : ((K[0].toNat : Int) != 115) = false := by rw [hz3]; rfl
        have hz1 : (0 : Int) < (K.size : Int) := by omega
        have hz4 : (1 : Int) ≤ (K.size : Int) := by omega
        rw [← hI] at HRD HRR hs100
        have HI : Hid (I = s.id) := hI
        have HV : Hid (m[k].value = U) := hval.trans hU.symm
        clear hp hq hK hU hkey hval h1 h2 h3 h4 hz3 hI
        go_wp2_with fail
        refine Calls.mono (HRD.out _) ?_
        rintro e w1 ⟨rfl, hb1⟩
        have HK1 : Hid (SSt w (.slice (some ⟨vg, 0, none⟩) L.length vc) L w1) := HK.out.below hb1
        have HAT1 : Hid (SpeAt w1 (some ⟨vg, 0, none⟩) vg 0 L) := HAT.out.kept hb1
        obtain ⟨_, c1⟩ := (HF.out.kept HK1.out.bel).2 k hlt
        rw [HV.out] at c1
        clear hb1 c0 HAT HK HV
        go_wp2_with fail
        refine Calls.mono (HRR.out _) ?_
        rintro e w3 ⟨rfl, hb3⟩
        have HK3 : Hid (SSt w (.slice (some ⟨vg, 0, none⟩) L.length vc) L w3) := HK1.out.below hb3
        have HAT3 : Hid (SpeAt w3 (some ⟨vg, 0, none⟩) vg 0 L) := HAT1.out.kept hb3
        clear hb3 c1 HAT1 HK1
        obtain ⟨W4, hW4⟩ : ∃ W4, W4 = w3.alloc (Obj.cells #[.int .i64 (I : Int), .int .i64 (s.seq : Int), .int .i64 (s.at_ : Int), .string s.rep] 58) := ⟨_, rfl⟩
        have HB4 : Hid (Below w3.heap.size w3 W4) := by rw [hW4]; exact (Below.refl _ _).alloc (Nat.le_refl _) _
        have HX4 : Hid (W4.heap[w3.heap.size]? = some (.cells #[.int .i64 (I : Int), .int .i64 (s.seq : Int), .int .i64 (s.at_ : Int), .string s.rep] 58 (0, 0))) := by rw [hW4]; exact heap_alloc_new w3 _
        go_wp2_with (first | (rw [← hW4]; clear hW4) | fail)
        have HK4 : Hid (SSt w (.slice (some ⟨vg, 0, none⟩) L.length vc) L W4) := HK3.out.below HB4.out
        have HAT4 : Hid (SpeAt W4 (some ⟨vg, 0, none⟩) vg 0 L) := HAT3.out.kept HB4.out
        clear HAT3 HK3 HB4
        have hll := HLL.out
        go_loopw [10] (fun x wr' => ∃ j : Nat, j ≤ L.length ∧ x = .int .i64 (j : Int) ∧ W4 = wr' ∧ Hid (∀ q (hq : q < L.length), j ≤ q → I < L[q].id)) (fun x _ => (intOf x).toNat)
        case atStart => exact ⟨L.length, Nat.le_refl _, rfl, rfl, fun q hq hjq => by omega⟩
        case round =>
          obtain ⟨j, hj, rfl, rfl, HM⟩ := hrel
          by_cases hj0 : j = 0
          · have hjn : ¬ (0 : Int) < (j : Int) := by omega
            have hexit : ∀ x : 0 < j, (L[j - 1]'(Nat.lt_of_lt_of_le (Nat.sub_lt x Nat.one_pos) hj)).id ≤ s.id := fun x => by omega
            go_upto_region 13 with fail
            clear hj0 hjn
            have HJ : Hid (AllS (m.take (k + 1)) ((L.take (j) ++ [s]) ++ L.drop (j))) := HT.out (j) hj hexit (fun q hq hjq => by have := HM.out q hq hjq; rw [← HI.out]; exact this)
            have hIs := HI.out
            subst hIs
            obtain ⟨W5, hW5⟩ : ∃ W5, W5 = W4.alloc (Obj.cells #[] 58) := ⟨_, rfl⟩
            have HB5 : Hid (Below W4.heap.size W4 W5) := by rw [hW5]; exact (Below.refl _ _).alloc (Nat.le_refl _) _
            have HO5 : Hid (W5.ownsRow W4.heap.size 58 4 (.slice (some ⟨W4.heap.size, 0, none⟩) 0 0) 0 []) := by rw [hW5]; exact own_empty (heap_alloc_new W4 _) (Nat.le_refl _)
            have HAT5 : Hid (SpeAt W5 (some ⟨vg, 0, none⟩) vg 0 (L.take (j))) := (HAT4.out.kept HB5.out).take _
            have hlj : (L.take (j)).length = j := List.length_take_of_le hj
            have hld : (L.drop (j)).length = L.length - (j) := List.length_drop
            have hji : ((j : Nat) : Int) ≤ (L.length : Int) := by omega
            have hjv : ((j : Nat) : Int) ≤ (vc : Int) := by omega
            go_upto_region 14 with (first | (rw [← hW5]; clear hW5; refine wpList_appendSpe rfl _ _ rfl W4.heap.size (.slice (some ⟨W4.heap.size, 0, none⟩) 0 0) 0 [] rfl HO5.out (some ⟨vg, 0, none⟩) vg 0 vc (L.take (j)) (by rw [hlj]; rfl) HAT5.out (fun h => by cases h) (by omega) HB5.out.size ?_; rintro v6 w6 hown6 hg6) | fail)
            have HB6 : Hid (Below W4.heap.size W4 w6) := HB5.out.grown hg6 HB5.out.size (fun q e => by have e2 : W4.heap.size = q := Option.some.inj e; omega)
            have HO6 : Hid (w6.ownsRow W4.heap.size 58 4 v6 (L.take (j)).length (cellsSpe (L.take (j)))) := by have q := hown6; rwa [Nat.zero_add, List.nil_append] at q
            have HX6 : Hid (w6.heap[w3.heap.size]? = some (.cells #[.int .i64 (s.id : Int), .int .i64 (s.seq : Int), .int .i64 (s.at_ : Int), .string s.rep] 58 (0, 0))) := (HB6.out.block _ (Array.getElem?_eq_some_iff.1 HX4.out).1).trans HX4.out
            clear hown6 hg6 HO5 HAT5 HB5
            obtain ⟨W7, hW7⟩ : ∃ W7, W7 = w6.alloc (SBox s) := ⟨_, rfl⟩
            have HB7 : Hid (Below w6.heap.size w6 W7) := by rw [hW7]; exact (Below.refl _ _).alloc (Nat.le_refl _) _
            have HS7 : Hid (SpeAt W7 (some ⟨w6.heap.size, 0, none⟩) w6.heap.size 0 [s]) := by rw [hW7]; exact spe_lies s
            have HO7 : Hid (W7.ownsRow W4.heap.size 58 4 v6 (L.take (j)).length (cellsSpe (L.take (j)))) := own_kept HO6.out HB7.out
            unfold SBox at hW7
            go_upto_region 15 with (first | (refine wpList_loadA Tryd.isAgg58 Tryd.sizeOf58 rfl _ rfl w3.heap.size #[.int .i64 (s.id : Int), .int .i64 (s.seq : Int), .int .i64 (s.at_ : Int), .string s.rep] 58 rfl HX6.out rfl ?_) | (rw [← hW7]; clear hW7; refine wpList_appendSpe rfl _ _ rfl W4.heap.size v6 (L.take (j)).length (cellsSpe (L.take (j))) rfl HO7.out (some ⟨w6.heap.size, 0, none⟩) w6.heap.size 0 1 [s] rfl HS7.out (fun h => by cases h) (by show _ + 1 ≤ _; omega) (Nat.le_trans HB6.out.size HB7.out.size) ?_; rintro v8 w8 hown8 hg8) | fail)
            have HB8 : Hid (Below W4.heap.size W4 w8) := (HB6.out.trans (HB7.out.mono HB6.out.size)).grown hg8 (Nat.le_trans HB6.out.size HB7.out.size) (fun q e => (HO7.out.lt q e).1)
            have HO8 : Hid (w8.ownsRow W4.heap.size 58 4 v8 ((L.take (j)).length + 1) (cellsSpe (L.take (j)) ++ cellsSpe [s])) := hown8
            obtain ⟨O, hO⟩ : ∃ O, O = if vc = j then 0 else j * 4 := ⟨_, rfl⟩
            have HAT8 : Hid (SpeAt w8 (some ⟨vg, O, none⟩) vg ((j) * 4) (L.drop (j))) := by
              have q := (HAT4.out.kept HB8.out).drop (j) hj
              rw [Nat.zero_add] at q
              refine ⟨fun hl => ?_, q.2⟩
              rw [hld] at hl
              rw [hO, if_neg (by omega)]
            clear hown8 hg8 HS7 HO7 HB7 HO6 HB6 HX6
            have hlast : (L.take (j)).length + 1 + (L.drop (j)).length ≤ 2097152 := by omega
            go_wp2_with (first | (refine wpList_appendSpe rfl _ _ rfl W4.heap.size v8 ((L.take (j)).length + 1) (cellsSpe (L.take (j)) ++ cellsSpe [s]) rfl HO8.out (some ⟨vg, O, none⟩) vg ((j) * 4) (vc - j) (L.drop (j)) (by rw [hld, hO]; simp [go_sem, Act.eval]; split <;> rfl) HAT8.out (fun h => by cases h) hlast HB8.out.size ?_; rintro v9 w9 hown9 hg9) | fail)
            have HB9 : Hid (Below W4.heap.size W4 w9) := HB8.out.grown hg9 HB8.out.size (fun q e => (HO8.out.lt q e).1)
            have HO9 : Hid (w9.ownsRow W4.heap.size 58 4 v9 ((L.take (j) ++ [s]) ++ L.drop (j)).length (cellsSpe ((L.take (j) ++ [s]) ++ L.drop (j)))) := by
              show World.ownsRow _ _ _ _ _ _ _
              rw [cellsSpe_app, cellsSpe_app, List.length_append, List.length_append]
              exact hown9
            obtain ⟨g9, c9, e9⟩ : ∃ g9 c9, v9 = .slice (some ⟨g9, 0, none⟩) ((L.take (j) ++ [s]) ++ L.drop (j)).length c9 := by
              rcases HO9.out.2 with ⟨e1, e2⟩ | ⟨g2, cap2, cur2, e1, _⟩
              · simp at e2
              · exact ⟨g2, cap2, e1⟩
            subst e9
            go_roundw
            case rel => exact ⟨k + 1, g9, c9, _, by omega, by go_num, rfl, ⟨own_mono HO9.out (HK4.out.bel.size), HK4.out.bel.trans (HB9.out.mono HK4.out.bel.size)⟩, HJ.out⟩
            case measure => simp [intOf]; omega
          · obtain ⟨p, rfl⟩ : ∃ p, j = p + 1 := ⟨j - 1, by omega⟩
            obtain ⟨d0, d1, d2, d3⟩ := HAT4.out.2 p (by omega)
            clear d1 d2 d3
            rw [Nat.zero_add] at d0
            obtain ⟨Q, hQ⟩ : ∃ Q, Q = L[p].id := ⟨_, rfl⟩
            rw [← hQ] at d0
            have HQ : Hid (Q = L[p].id) := hQ
            have hp0 : (0 : Int) ≤ (p : Int) := by omega
            have hp1 : (p : Int) < (L.length : Int) := by omega
            have hp2 : (0 : Int) < (p : Int) + 1 := by omega
            clear hQ hj0
            by_cases hab : I < Q
            · have t2 : (I : Int) < (Q : Int) := by omega
              go_wp2
              go_roundw
              case rel => exact ⟨p, by omega, by go_num, by trivial, fun q hq hpq => by
                rcases Nat.lt_or_ge p q with c | c
                · exact HM.out q hq c
                · have : q = p := by omega
                  subst this; rw [← HQ.out]; exact hab⟩
              case measure => simp [intOf]
            · have t2 : ¬ (I : Int) < (Q : Int) := by omega
              have hexit0 : ∀ x : 0 < p + 1, (L[p + 1 - 1]'(Nat.lt_of_lt_of_le (Nat.sub_lt x Nat.one_pos) hj)).id ≤ s.id := fun x => by
                show L[p].id ≤ s.id
                rw [← HQ.out, ← HI.out]; exact Nat.le_of_not_lt hab
              go_upto_region 13 with fail
              clear t2 hab hp0 hp1 hp2 d0 HQ
              obtain ⟨j, hjp⟩ : ∃ j, j = p + 1 := ⟨_, rfl⟩
              have hj' : j ≤ L.length := by rw [hjp]; exact hj
              have hexit : ∀ x : 0 < j, (L[j - 1]'(Nat.lt_of_lt_of_le (Nat.sub_lt x Nat.one_pos) hj')).id ≤ s.id := by subst hjp; exact hexit0
              rw [← hjp] at HM ⊢
              clear hexit0 hj hjp
              have hj := hj'
              have HJ : Hid (AllS (m.take (k + 1)) ((L.take (j) ++ [s]) ++ L.drop (j))) := HT.out (j) hj hexit (fun q hq hjq => by have := HM.out q hq hjq; rw [← HI.out]; exact this)
              have hIs := HI.out
              subst hIs
              obtain ⟨W5, hW5⟩ : ∃ W5, W5 = W4.alloc (Obj.cells #[] 58) := ⟨_, rfl⟩
              have HB5 : Hid (Below W4.heap.size W4 W5) := by rw [hW5]; exact (Below.refl _ _).alloc (Nat.le_refl _) _
              have HO5 : Hid (W5.ownsRow W4.heap.size 58 4 (.slice (some ⟨W4.heap.size, 0, none⟩) 0 0) 0 []) := by rw [hW5]; exact own_empty (heap_alloc_new W4 _) (Nat.le_refl _)
              have HAT5 : Hid (SpeAt W5 (some ⟨vg, 0, none⟩) vg 0 (L.take (j))) := (HAT4.out.kept HB5.out).take _
              have hlj : (L.take (j)).length = j := List.length_take_of_le hj
              have hld : (L.drop (j)).length = L.length - (j) := List.length_drop
              have hji : ((j : Nat) : Int) ≤ (L.length : Int) := by omega
              have hjv : ((j : Nat) : Int) ≤ (vc : Int) := by omega
              go_upto_region 14 with (first | (rw [← hW5]; clear hW5; refine wpList_appendSpe rfl _ _ rfl W4.heap.size (.slice (some ⟨W4.heap.size, 0, none⟩) 0 0) 0 [] rfl HO5.out (some ⟨vg, 0, none⟩) vg 0 vc (L.take (j)) (by rw [hlj]; rfl) HAT5.out (fun h => by cases h) (by omega) HB5.out.size ?_; rintro v6 w6 hown6 hg6) | fail)
              have HB6 : Hid (Below W4.heap.size W4 w6) := HB5.out.grown hg6 HB5.out.size (fun q e => by have e2 : W4.heap.size = q := Option.some.inj e; omega)
              have HO6 : Hid (w6.ownsRow W4.heap.size 58 4 v6 (L.take (j)).length (cellsSpe (L.take (j)))) := by have q := hown6; rwa [Nat.zero_add, List.nil_append] at q
              have HX6 : Hid (w6.heap[w3.heap.size]? = some (.cells #[.int .i64 (s.id : Int), .int .i64 (s.seq : Int), .int .i64 (s.at_ : Int), .string s.rep] 58 (0, 0))) := (HB6.out.block _ (Array.getElem?_eq_some_iff.1 HX4.out).1).trans HX4.out
              clear hown6 hg6 HO5 HAT5 HB5
              obtain ⟨W7, hW7⟩ : ∃ W7, W7 = w6.alloc (SBox s) := ⟨_, rfl⟩
              have HB7 : Hid (Below w6.heap.size w6 W7) := by rw [hW7]; exact (Below.refl _ _).alloc (Nat.le_refl _) _
              have HS7 : Hid (SpeAt W7 (some ⟨w6.heap.size, 0, none⟩) w6.heap.size 0 [s]) := by rw [hW7]; exact spe_lies s
              have HO7 : Hid (W7.ownsRow W4.heap.size 58 4 v6 (L.take (j)).length (cellsSpe (L.take (j)))) := own_kept HO6.out HB7.out
              unfold SBox at hW7
              go_upto_region 15 with (first | (refine wpList_loadA Tryd.isAgg58 Tryd.sizeOf58 rfl _ rfl w3.heap.size #[.int .i64 (s.id : Int), .int .i64 (s.seq : Int), .int .i64 (s.at_ : Int), .string s.rep] 58 rfl HX6.out rfl ?_) | (rw [← hW7]; clear hW7; refine wpList_appendSpe rfl _ _ rfl W4.heap.size v6 (L.take (j)).length (cellsSpe (L.take (j))) rfl HO7.out (some ⟨w6.heap.size, 0, none⟩) w6.heap.size 0 1 [s] rfl HS7.out (fun h => by cases h) (by show _ + 1 ≤ _; omega) (Nat.le_trans HB6.out.size HB7.out.size) ?_; rintro v8 w8 hown8 hg8) | fail)
              have HB8 : Hid (Below W4.heap.size W4 w8) := (HB6.out.trans (HB7.out.mono HB6.out.size)).grown hg8 (Nat.le_trans HB6.out.size HB7.out.size) (fun q e => (HO7.out.lt q e).1)
              have HO8 : Hid (w8.ownsRow W4.heap.size 58 4 v8 ((L.take (j)).length + 1) (cellsSpe (L.take (j)) ++ cellsSpe [s])) := hown8
              obtain ⟨O, hO⟩ : ∃ O, O = if vc = j then 0 else j * 4 := ⟨_, rfl⟩
              have HAT8 : Hid (SpeAt w8 (some ⟨vg, O, none⟩) vg ((j) * 4) (L.drop (j))) := by
                have q := (HAT4.out.kept HB8.out).drop (j) hj
                rw [Nat.zero_add] at q
                refine ⟨fun hl => ?_, q.2⟩
                rw [hld] at hl
                rw [hO, if_neg (by omega)]
              clear hown8 hg8 HS7 HO7 HB7 HO6 HB6 HX6
              have hlast : (L.take (j)).length + 1 + (L.drop (j)).length ≤ 2097152 := by omega
              go_wp2_with (first | (refine wpList_appendSpe rfl _ _ rfl W4.heap.size v8 ((L.take (j)).length + 1) (cellsSpe (L.take (j)) ++ cellsSpe [s]) rfl HO8.out (some ⟨vg, O, none⟩) vg ((j) * 4) (vc - j) (L.drop (j)) (by rw [hld, hO]; simp [go_sem, Act.eval]; split <;> rfl) HAT8.out (fun h => by cases h) hlast HB8.out.size ?_; rintro v9 w9 hown9 hg9) | fail)
              have HB9 : Hid (Below W4.heap.size W4 w9) := HB8.out.grown hg9 HB8.out.size (fun q e => (HO8.out.lt q e).1)
              have HO9 : Hid (w9.ownsRow W4.heap.size 58 4 v9 ((L.take (j) ++ [s]) ++ L.drop (j)).length (cellsSpe ((L.take (j) ++ [s]) ++ L.drop (j)))) := by
                show World.ownsRow _ _ _ _ _ _ _
                rw [cellsSpe_app, cellsSpe_app, List.length_append, List.length_append]
                exact hown9
              obtain ⟨g9, c9, e9⟩ : ∃ g9 c9, v9 = .slice (some ⟨g9, 0, none⟩) ((L.take (j) ++ [s]) ++ L.drop (j)).length c9 := by
                rcases HO9.out.2 with ⟨e1, e2⟩ | ⟨g2, cap2, cur2, e1, _⟩
                · simp at e2
                · exact ⟨g2, cap2, e1⟩
              subst e9
              go_roundw
              case rel => exact ⟨k + 1, g9, c9, _, by omega, by go_num, rfl, ⟨own_mono HO9.out (HK4.out.bel.size), HK4.out.bel.trans (HB9.out.mono HK4.out.bel.size)⟩, HJ.out⟩
              case measure => simp [intOf]; omega
    · have hk1 : ¬ (k : Int) < (m.length : Int) := by omega
      have hkm : m.take k = m := List.take_of_length_le (by omega)
      rw [hkm] at HA
      go_wp2
      go_ret2
      exact ⟨_, rfl, L, HA.out, HK.out.own, HK.out.bel⟩
end Go.Proofs.YtpedpdgkbmpfjaaDoor
