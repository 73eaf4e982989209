/- The program's sessionsOf, walked: the sessions of a state, in the order of its keys. -/
import Derived.Test.YtpedpdgkbmpfjaaDoorLSes
import Derived.Test.YtpedpdgkbmpfjaaDoorLPair
namespace Go.Proofs.YtpedpdgkbmpfjaaDoor
open Go.RowKit
open Acts (decS skey sval nkey kkey sess parse Enc)
set_option linter.unusedVariables false
set_option linter.unusedSimpArgs false

structure KSt (w : World) (v : Value) (L : List Ses) (W : World) : Prop where
  own : W.ownsRow w.heap.size 92 4 v L.length (cellsSes L)
  bel : Below w.heap.size w W
theorem KSt.below {w W W' : World} {v : Value} {L : List Ses} (h : KSt w v L W) (hb : Below W.heap.size W W') : KSt w v L W' := ⟨own_kept h.own hb, h.bel.trans (hb.mono h.bel.size)⟩
theorem two_bel {w : World} (a b : Obj) : Below w.heap.size w ((w.alloc a).alloc b) := ((Below.refl _ _).alloc (Nat.le_refl _) _).alloc (by simp) _
theorem ses_lies {w : World} (a : Obj) (s : Ses) : SesAt ((w.alloc a).alloc (Obj.cells #[.int .i64 (s.id : Int), .int .i64 (s.seq : Int), .int .i64 (s.at_ : Int), .string s.rep] 92)) (some ⟨w.heap.size + 1, 0, none⟩) (w.heap.size + 1) 0 [s] := by
  have p := heap_alloc_new (w.alloc a) (Obj.cells #[.int .i64 (s.id : Int), .int .i64 (s.seq : Int), .int .i64 (s.at_ : Int), .string s.rep] 92)
  have e : (w.alloc a).heap.size = w.heap.size + 1 := by simp
  rw [e] at p
  refine ⟨fun _ => rfl, fun j hj => ?_⟩
  have hj0 : j = 0 := by simp at hj; omega
  subst hj0
  exact ⟨cell_of_row _ _ 0 _ _ _ p, cell_of_row _ _ 1 _ _ _ p, cell_of_row _ _ 2 _ _ _ p, cell_of_row _ _ 3 _ _ _ p⟩
theorem sess_take {m : List PairL} {k : Nat} (hk : k < m.length) {o : Option Ses} (h : parse m[k] = o) : sess (m.take (k + 1)) = sess (m.take k) ++ o.toList := by
  unfold sess
  rw [List.take_succ_eq_append_getElem hk, List.filterMap_append]
  congr 1
  cases o with
  | none => rw [List.filterMap_cons_none h]; rfl
  | some s => rw [List.filterMap_cons_some h]; rfl
set_option maxHeartbeats 4000000 in
set_option maxRecDepth 100000 in
theorem sesOf_is {T : Nat} {a : Option Addr} {g off cap : Nat} (m : List PairL) (hT : T ≤ 60) (hlen : m.length ≤ 200) (he : ∀ p ∈ m, Enc T p) (w : World) (hf : PairAt w a g off m) :
    Calls Tryd.prog 35 #[.slice a m.length cap] w fun e w' => ∃ v, e = .returned (.tuple #[v, .bool true]) ∧ w'.ownsRow w.heap.size 92 4 v (sess m).length (cellsSes (sess m)) ∧ Below w.heap.size w w' := by
  have HF : Hid (PairAt w a g off m) := hf
  have HE : Hid (∀ p ∈ m, Enc T p) := he
  clear hf he
  go_enter Tryd.func35, Tryd.ntmps35
  go_wp2_with fail
  go_loopw [13, 4] (fun i v wr => ∃ (k : Nat) (V : Value), k ≤ m.length ∧ i = .int .i64 (k : Int) ∧ v = V ∧ KSt w V (sess (m.take k)) wr)
    (fun i _ _ => m.length - (intOf i).toNat)
  case atStart => exact ⟨0, _, Nat.zero_le _, rfl, rfl, World.ownsRow_nil _ _ _ _, Below.refl _ _⟩
  case round =>
    obtain ⟨k, V, hk, rfl, rfl, hst⟩ := hrel
    obtain ⟨va, vc, rfl⟩ := own_slice hst.own
    have HK : Hid (KSt w (.slice va (sess (m.take k)).length vc) (sess (m.take k)) wr) := hst
    clear hst
    by_cases hlt : k < m.length
    · obtain ⟨c0, c1⟩ := (HF.out.kept HK.out.bel).2 k hlt
      have ea := HF.out.1 (by omega)
      subst ea
      have hk0 : (0 : Int) ≤ (k : Int) := by omega
      have hk1 : (k : Int) < (m.length : Int) := by omega
      rcases Acts.enc_parse (by omega) (HE.out m[k] (List.getElem_mem _)) with ⟨hp, hh⟩ | ⟨s, hp, hq, h1, h2, h3, h4⟩
      · have HN : Hid (∀ W, Calls Tryd.prog 56 #[.string m[k].key] W fun e w' => e = .returned (.tuple #[.int .i64 0, .bool false]) ∧ w' = W) := fun W => number_no hh W
        have HT : Hid (sess (m.take (k + 1)) = sess (m.take k)) := by show _ = _; rw [sess_take hlt hp]; simp
        obtain ⟨K, hK⟩ : ∃ K, K = m[k].key := ⟨_, rfl⟩
        obtain ⟨U, hU⟩ : ∃ U, U = m[k].value := ⟨_, rfl⟩
        rw [← hK] at c0 HN
        rw [← hU] at c1
        clear hp hh hK hU
        go_wp2_with (go_at_call 56; refine Calls.mono (HN.out _) ?_; rintro e w1 ⟨rfl, hw⟩; subst hw)
        go_roundw
        case rel => exact ⟨k + 1, _, by omega, by go_num, rfl, by rw [HT.out]; exact HK.out.below ((Below.refl _ _).alloc (Nat.le_refl _) _)⟩
        case measure => simp [intOf]; omega
      · have hkey : m[k].key = skey s.id := by rw [hq]
        have hval : m[k].value = sval s := by rw [hq]
        rw [hkey] at c0
        rw [hval] at c1
        have HN : Hid (∀ W, Calls Tryd.prog 56 #[.string (skey s.id)] W fun e w' => e = .returned (.tuple #[.int .i64 (s.id : Int), .bool true]) ∧ w' = W) := fun W => number_is s.id (by omega) W
        have HR : Hid (∀ W, Calls Tryd.prog 57 #[.int .i64 (s.id : Int), .string (sval s)] W fun e w' => e = .returned (.tuple #[sesV s, .bool true]) ∧ Below W.heap.size W w') := fun W => readSes_is s ⟨by omega, by omega, by omega⟩ (by omega) W
        unfold sesV at HR
        have HT : Hid (sess (m.take (k + 1)) = sess (m.take k) ++ [s]) := by show _ = _; rw [sess_take hlt hp]; rfl
        have hpl : (sess (m.take k)).length ≤ 200 := by have := List.length_filterMap_le parse (m.take k); rw [List.length_take] at this; unfold sess; omega
        obtain ⟨K, hK⟩ : ∃ K, K = skey s.id := ⟨_, rfl⟩
        obtain ⟨U, hU⟩ : ∃ U, U = sval s := ⟨_, rfl⟩
        obtain ⟨pre, hpre⟩ : ∃ pre, pre = sess (m.take k) := ⟨_, rfl⟩
        rw [← hK] at c0 HN
        rw [← hU] at c1 HR
        rw [← hpre] at HK HT hpl
        rw [← hpre]
        clear hp hq hK hU hkey hval h1 h2 h3 h4 hpre
        have HB0 : Hid (Below wr.heap.size wr (wr.alloc (Obj.cells #[.string K, .string U] 48))) := (Below.refl _ _).alloc (Nat.le_refl _) _
        go_wp2_with (first | (go_at_call 56; refine Calls.mono (HN.out _) ?_; rintro e w1 ⟨rfl, hw⟩; subst hw) | fail)
        refine Calls.mono (HR.out _) ?_
        rintro e w3 ⟨rfl, hb3⟩
        have HK3 : Hid (KSt w (.slice va pre.length vc) pre w3) := HK.out.below (HB0.out.trans (hb3.mono HB0.out.size))
        have HA3 : Hid (((w3.alloc (Obj.cells #[.int .i64 (s.id : Int), .int .i64 (s.seq : Int), .int .i64 (s.at_ : Int), .string s.rep] 92)).alloc (Obj.cells #[.int .i64 (s.id : Int), .int .i64 (s.seq : Int), .int .i64 (s.at_ : Int), .string s.rep] 92)).ownsRow w.heap.size 92 4 (.slice va pre.length vc) pre.length (cellsSes pre)) := own_kept HK3.out.own (two_bel _ _)
        have HS3 : Hid (SesAt ((w3.alloc (Obj.cells #[.int .i64 (s.id : Int), .int .i64 (s.seq : Int), .int .i64 (s.at_ : Int), .string s.rep] 92)).alloc (Obj.cells #[.int .i64 (s.id : Int), .int .i64 (s.seq : Int), .int .i64 (s.at_ : Int), .string s.rep] 92)) (some ⟨w3.heap.size + 1, 0, none⟩) (w3.heap.size + 1) 0 [s]) := ses_lies _ s
        have HL3 : Hid (w.heap.size ≤ ((w3.alloc (Obj.cells #[.int .i64 (s.id : Int), .int .i64 (s.seq : Int), .int .i64 (s.at_ : Int), .string s.rep] 92)).alloc (Obj.cells #[.int .i64 (s.id : Int), .int .i64 (s.seq : Int), .int .i64 (s.at_ : Int), .string s.rep] 92)).heap.size) := by have := HK3.out.bel.size; show _ ≤ _; simp; omega
        clear hb3 c0 c1 HK HB0
        go_wp2_with (first | (refine wpList_appendSes rfl _ _ rfl w.heap.size (.slice va pre.length vc) pre.length (cellsSes pre) rfl HA3.out (some ⟨w3.heap.size + 1, 0, none⟩) (w3.heap.size + 1) 0 1 [s] rfl HS3.out (fun h => by cases h) (by show _ + 1 ≤ _; omega) HL3.out ?_; rintro v4 w4 hown4 hg4) | fail)
        have hK4 : KSt w v4 (pre ++ [s]) w4 := by
          refine ⟨by rw [cellsSes_app, List.length_append]; exact hown4, ?_⟩
          have b1 : Below w.heap.size w ((w3.alloc (Obj.cells #[.int .i64 (s.id : Int), .int .i64 (s.seq : Int), .int .i64 (s.at_ : Int), .string s.rep] 92)).alloc (Obj.cells #[.int .i64 (s.id : Int), .int .i64 (s.seq : Int), .int .i64 (s.at_ : Int), .string s.rep] 92)) := HK3.out.bel.trans ((two_bel _ _).mono HK3.out.bel.size)
          exact b1.grown hg4 b1.size (fun q e => by
            rcases HA3.out.2 with ⟨e1, _⟩ | ⟨g2, cap2, cur2, e1, hg2, _⟩
            · rw [e1] at e; cases e
            · rw [e1] at e; cases e; exact hg2)
        go_roundw
        case rel => exact ⟨k + 1, _, by omega, by go_num, rfl, by rw [HT.out]; exact hK4⟩
        case measure => simp [intOf]; omega
    · have hk1 : ¬ (k : Int) < (m.length : Int) := by omega
      have HT : Hid (sess (m.take k) = sess m) := by show _ = _; rw [List.take_of_length_le (by omega)]
      go_wp2
      go_ret2
      rw [HT.out] at HK
      rw [HT.out]
      exact ⟨_, rfl, HK.out.own, HK.out.bel⟩
end Go.Proofs.YtpedpdgkbmpfjaaDoor
