/- The law FnFrames, walked: drawn records come back from their frames; of frames that are cut just the whole ones do. -/
import Derived.Test.YteaioippomkliaaDrawHex
import Derived.Test.YteaioippomkliaaMathCut
import Derived.Deep.DeepCutAuto
namespace Go.Proofs.Yteaioippomkliaa
open Go.RowKit
set_option linter.unusedVariables false

set_option maxHeartbeats 1000000 in
set_option maxRecDepth 100000 in
theorem same_any {ps : List (List UInt8)} {va vb : Value} {B1 B2 : Nat} (hps : ps.length ≤ 20000) (w : World) (hA : w.ownsRow B1 9 1 va ps.length (cellsS ps)) (hB : w.ownsRow B2 9 1 vb ps.length (cellsS ps)) :
    Calls Try.prog 12 #[va, vb] w fun e w' => e = .returned (.bool true) ∧ w'.heap = w.heap ∧ Below w.heap.size w w' := by
  by_cases h0 : ps.length = 0
  · obtain ⟨x, c, rfl⟩ : ∃ x c, va = .slice x 0 c := by
      rcases hA.2 with ⟨rfl, _⟩ | ⟨g, cap, cur, rfl, _⟩
      · exact ⟨_, _, rfl⟩
      · exact ⟨_, _, by rw [h0]⟩
    obtain ⟨y, d, rfl⟩ : ∃ x c, vb = .slice x 0 c := by
      rcases hB.2 with ⟨rfl, _⟩ | ⟨g, cap, cur, rfl, _⟩
      · exact ⟨_, _, rfl⟩
      · exact ⟨_, _, by rw [h0]⟩
    clear hA hB h0
    go_enter Try.func12, Try.ntmps12
    go_wp2
    refine wp_loop_rounds 1 ?_
    rw [rounds_succ]
    go_wp2
    go_ret
    exact ⟨rfl, rfl, Below.refl _ _⟩
  · rcases hA.2 with ⟨rfl, h⟩ | ⟨ga, ca, cura, rfl, _⟩
    · exact absurd h h0
    rcases hB.2 with ⟨rfl, h⟩ | ⟨gb, cb, curb, rfl, _⟩
    · exact absurd h h0
    have HA : Hid (∀ k (hk : k < ps.length), w.cell? ⟨ga, k, none⟩ = some (.string ⟨ps[k].toArray⟩)) := fun k hk => cell_at hA k hk
    have HB : Hid (∀ k (hk : k < ps.length), w.cell? ⟨gb, k, none⟩ = some (.string ⟨ps[k].toArray⟩)) := fun k hk => cell_at hB k hk
    clear hA hB h0
    go_enter Try.func12, Try.ntmps12
    go_wp2
    go_loopw [5] (fun i wr => ∃ k : Nat, k ≤ ps.length ∧ i = .int .i64 (k : Int) ∧ wr.heap = w.heap ∧ Below w.heap.size w wr) (fun i _ => ps.length - (intOf i).toNat)
    case atStart => exact ⟨0, by omega, rfl, rfl, Below.refl _ _⟩
    case round =>
      obtain ⟨k, hk, rfl, hheap, hbel⟩ := hrel
      have HH : Hid (wr.heap = w.heap) := hheap
      clear hheap
      by_cases hlt : k < ps.length
      · have hk0 : (0 : Int) ≤ (k : Int) := by omega
        have hk1 : (k : Int) < (ps.length : Int) := by omega
        obtain ⟨q, HQ⟩ : ∃ q, Hid (q = ps[k]) := ⟨ps[k], (rfl : ps[k] = ps[k])⟩
        have ca1 : wr.cell? ⟨ga, k, none⟩ = some (.string ⟨q.toArray⟩) := by
          rw [World.cell?_of_block (w := w) (by rw [HH.out]), HA.out k hlt, HQ.out]
        have cb1 : wr.cell? ⟨gb, k, none⟩ = some (.string ⟨q.toArray⟩) := by
          rw [World.cell?_of_block (w := w) (by rw [HH.out]), HB.out k hlt, HQ.out]
        go_wp2
        go_quiet (fail)
        go_wp2
        go_roundw
        case rel => exact ⟨k + 1, by omega, by go_num, HH.out, below_drewN hbel _⟩
        case measure => simp [intOf]; omega
      · have hk1 : ¬ (k : Int) < (ps.length : Int) := by omega
        go_wp2
        go_ret
        exact ⟨rfl, HH.out, hbel⟩


/-- A row's beginning is a row. -/
theorem own_take {w : World} {B g n cap : Nat} {ps : List (List UInt8)} (h : w.ownsRow B 9 1 (.slice (some ⟨g, 0, none⟩) n cap) n (cellsS ps)) (m : Nat) (hm : m ≤ n) (hn : ps.length = n) :
    w.ownsRow B 9 1 (.slice (some ⟨g, 0, none⟩) m cap) (ps.take m).length (cellsS (ps.take m)) := by
  have hl : (ps.take m).length = m := by rw [List.length_take]; omega
  rw [hl]
  refine ⟨by simp [cellsS]; omega, ?_⟩
  rcases h.2 with ⟨h1, _⟩ | ⟨g', cap', cur, h1, hg, hh, h2, h3, h4, h5⟩
  · cases h1
  · cases h1
    refine Or.inr ⟨g, cap, cur, rfl, hg, hh, by omega, h3, h4, ?_⟩
    have e : cellsS (ps.take m) = (cellsS ps).take m := by simp [cellsS, List.map_take]
    rw [e, ← h5, List.take_take]
    congr 1
    omega
def twoB : List UInt8 := [116, 119, 111]
def threeB : List UInt8 := [116, 104, 114, 101, 101, 32, 97, 110, 100, 32, 109, 111, 114, 101]
def recs (T : ByteArray) : List (List UInt8) := [T.data.toList, twoB, threeB]
theorem list_row (W : World) (T : ByteArray) : (W.alloc (.cells #[.string T, .string ⟨#[116, 119, 111]⟩, .string ⟨#[116, 104, 114, 101, 101, 32, 97, 110, 100, 32, 109, 111, 114, 101]⟩] 9)).ownsRow W.heap.size 9 1 (.slice (some ⟨W.heap.size, 0, none⟩) 3 3) 3 (cellsS (recs T)) :=
  ⟨rfl, Or.inr ⟨W.heap.size, 3, _, rfl, Nat.le_refl _, heap_alloc_new W _, Nat.le_refl _, by unfold maxLen; omega, rfl, rfl⟩⟩

theorem recs_ok (T : ByteArray) (h1 : 1 ≤ T.size) (h2 : T.size ≤ 9000) : (recs T).length = 3 ∧ (∀ t ∈ recs T, Words.okRec t) ∧ (Words.frames (recs T)).length ≤ 19000 := by
  have e2 : twoB.length = 3 := rfl
  have e3 : threeB.length = 14 := rfl
  refine ⟨rfl, fun t ht => ?_, ?_⟩
  · simp only [recs, List.mem_cons, List.not_mem_nil, or_false] at ht
    rcases ht with rfl | rfl | rfl
    · exact ⟨by rw [Words.size_list]; exact h1, by rw [Words.size_list]; exact h2⟩
    · exact ⟨by omega, by omega⟩
    · exact ⟨by omega, by omega⟩
  · have l1 := Words.var_len T.data.toList.length
    have l2 := Words.var_len twoB.length
    have l3 := Words.var_len threeB.length
    have hs := Words.size_list T
    simp only [recs, Words.frames, List.length_append, List.length_nil, Words.frame_len]
    omega
/-- Where each frame ends. -/
def endsOf (ts : List (List UInt8)) (k : Nat) : List Int := (List.range (k + 1)).map fun j => ((Words.frames (ts.take j)).length : Int)
theorem ends_succ (ts : List (List UInt8)) (k : Nat) : endsOf ts (k + 1) = endsOf ts k ++ [((Words.frames (ts.take (k + 1))).length : Int)] := by
  unfold endsOf
  rw [List.range_succ, List.map_append]; rfl
theorem ends_len (ts : List (List UInt8)) (k : Nat) : (endsOf ts k).length = k + 1 := by simp [endsOf]
theorem ends_at (ts : List (List UInt8)) (m : Nat) (hm : m ≤ 3) : (cellsI (endsOf ts 3))[m]? = some (.int .i64 ((Words.frames (ts.take m)).length : Int)) := by
  simp only [cellsI, endsOf, List.map_map, List.getElem?_map]
  rw [List.getElem?_range (by omega)]
  rfl
theorem ends_zero (W : World) (ts : List (List UInt8)) (g : Nat) (h : W.heap.size = g) : (W.alloc (.cells #[.int .i64 0] 3)).ownsRow g 3 1 (.slice (some ⟨g, 0, none⟩) 1 1) (0 + 1) (cellsI (endsOf ts 0)) := by
  subst h
  exact ⟨rfl, Or.inr ⟨W.heap.size, 1, _, rfl, Nat.le_refl _, heap_alloc_new W _, Nat.le_refl _, by unfold maxLen; omega, rfl, rfl⟩⟩

theorem frames_part {ts : List (List UInt8)} (hok : ∀ t ∈ ts, Words.okRec t) {F : ByteArray} (hF : F.data.toList = Words.frames ts) (hs : F.size ≤ 20000) (k : Nat) (hk : k ≤ F.size) :
    ∃ m, m ≤ ts.length ∧ (∀ wx, Calls Try.prog 11 #[.string (F.extract 0 k)] wx fun e w' => ∃ v, e = .returned (.tuple #[v, .int .i64 ((Words.frames (ts.take m)).length : Int)]) ∧ w'.ownsRow wx.heap.size 9 1 v m (cellsS (ts.take m)) ∧ Below wx.heap.size wx w') ∧
      (Words.frames (ts.take m)).length ≤ k ∧ (m = ts.length ∨ k < (Words.frames (ts.take (m + 1))).length) := by
  have hl : (Words.frames ts).length = F.size := by rw [← hF, Words.size_list]
  obtain ⟨m, h1, h2, h3, h4, h5⟩ := Words.cut_frames ts [] k (k + 1) hok (by omega) (by omega)
  have he : (F.extract 0 k).data.toList = [] ++ (Words.frames ts).take k := by rw [Words.extract_list, hF]; simp
  have hz : (F.extract 0 k).size = k := by rw [ByteArray.size_extract]; omega
  have hm : (ts.take m).length = m := by rw [List.length_take]; omega
  refine ⟨m, h1, fun wx => ?_, h4, h5⟩
  have := implUn_is (F.extract 0 k) (by omega) wx
  rw [hz, he] at this
  simp only [List.length_nil, Nat.zero_add] at h2 h3
  rw [h2, h3, hm] at this
  exact this
theorem frames_all {ts : List (List UInt8)} (hok : ∀ t ∈ ts, Words.okRec t) {F : ByteArray} (hF : F.data.toList = Words.frames ts) (hs : F.size ≤ 20000) (wx : World) :
    Calls Try.prog 11 #[.string F] wx fun e w' => ∃ v, e = .returned (.tuple #[v, .int .i64 (F.size : Int)]) ∧ w'.ownsRow wx.heap.size 9 1 v ts.length (cellsS ts) ∧ Below wx.heap.size wx w' := by
  have hl : (Words.frames ts).length = F.size := by rw [← hF, Words.size_list]
  obtain ⟨m, h1, h2, h3, h4⟩ := frames_part hok hF hs F.size (Nat.le_refl _)
  have hm : m = ts.length := by
    rcases h4 with h4 | h4
    · exact h4
    · have := Words.frames_take ts (m + 1); omega
  have := h2 wx
  rw [hm, List.take_length, hl] at this
  have e : F.extract 0 F.size = F := by
    apply ByteArray.ext
    apply Array.toList_inj.1
    rw [Words.extract_list, List.drop_zero, List.take_of_length_le (by rw [Words.size_list]; omega)]
  rwa [e] at this

set_option maxHeartbeats 4000000 in
set_option maxRecDepth 100000 in
theorem fnFrames_any {cap len b off : Nat} {a : Option Addr} {z : Nat → Int} (w : World) (hc : Code w.heap.size w a len b off z) :
    Calls Try.prog 3 #[.slice a len cap] w fun e w' => e = .returned (.bool true) ∧ Below w.heap.size w w' := by
  obtain ⟨j0, hj, hy0, hy1, hy2⟩ := info_parts Try.info3
  have HC : Hid (Code w.heap.size w a len b off z) := hc
  have hlen := hc.2.1
  clear hc
  go_enter Try.func3, Try.ntmps3
  go_wp2_with fail
  refine (big_no a len cap hlen _).mono ?_
  rintro e w0 ⟨rfl, rfl⟩
  go_wp2_with fail
  refine (drawPlaces_any w (Nat.le_refl _) HC.out).mono ?_
  rintro e w1 ⟨v1, p1, rfl, hp1, hpb1, hown1, hb1⟩
  obtain ⟨pg, pc, rfl⟩ : ∃ pg pc, v1 = .slice (some ⟨pg, 0, none⟩) 12 pc := by
    rcases hown1.2 with ⟨_, h⟩ | ⟨g, cp, cu, h1, _⟩
    · omega
    · exact ⟨g, cp, h1⟩
  have HP : Hid (w1.ownsRow w.heap.size 3 1 (.slice (some ⟨pg, 0, none⟩) 12 pc) 12 (cellsI p1)) := hown1
  have HPB : Hid (p1.length = 12 ∧ ∀ x ∈ p1, 0 ≤ x ∧ x < 10000) := ⟨hp1, hpb1⟩
  have HB1 : Hid (Below w.heap.size w w1) := hb1
  clear hown1 hp1 hpb1 hb1
  go_wp2_with fail
  refine (drawHex_any w1 HB1.out.size (HC.out.below HB1.out)).mono ?_
  rintro e w2 ⟨H, rfl, hH, hb2⟩
  have HP2 : Hid (w2.ownsRow w.heap.size 3 1 (.slice (some ⟨pg, 0, none⟩) 12 pc) 12 (cellsI p1)) := own_kept HP.out hb2
  have HB2 : Hid (Below w.heap.size w w2) := HB1.out.trans (hb2.mono HB1.out.size)
  have HR := fun T => list_row w2 T
  have HL : Hid (∀ T, (w2.alloc (.cells #[.string T, .string ⟨#[116, 119, 111]⟩, .string ⟨#[116, 104, 114, 101, 101, 32, 97, 110, 100, 32, 109, 111, 114, 101]⟩] 9)).ownsRow w2.heap.size 9 1 (.slice (some ⟨w2.heap.size, 0, none⟩) 3 3) 3 (cellsS (recs T))) := HR
  clear hb2 HR HP HB1
  by_cases hH0 : H.size = 0
  · have h1 : ((H.size : Int) == 0) = true := by simp [hH0]
    go_upto_region 7 with fail
    generalize hT : (⟨#[111, 110, 101]⟩ : ByteArray) = T
    have hT1 : 1 ≤ T.size := by rw [← hT]; decide
    have hT2 : T.size ≤ 9000 := by rw [← hT]; decide
    clear hT
    obtain ⟨ts, hts⟩ : ∃ ts, ts = recs T := ⟨_, rfl⟩
    have hL := HL.out T
    rw [← hts] at hL
    have HTS : Hid (ts.length = 3 ∧ (∀ t ∈ ts, Words.okRec t) ∧ (Words.frames ts).length ≤ 19000) := by show _ ∧ _; rw [hts]; exact recs_ok T hT1 hT2
    clear hts HL
    obtain ⟨W3, hW3⟩ : ∃ W3, W3 = w2.alloc (.cells #[.string T, .string ⟨#[116, 119, 111]⟩, .string ⟨#[116, 104, 114, 101, 101, 32, 97, 110, 100, 32, 109, 111, 114, 101]⟩] 9) := ⟨_, rfl⟩
    rw [← hW3] at hL ⊢
    have HL3 : Hid (W3.ownsRow w2.heap.size 9 1 (.slice (some ⟨w2.heap.size, 0, none⟩) 3 3) 3 (cellsS ts)) := hL
    have HP3 : Hid (W3.ownsRow w.heap.size 3 1 (.slice (some ⟨pg, 0, none⟩) 12 pc) 12 (cellsI p1)) := by show World.ownsRow _ _ _ _ _ _ _; rw [hW3]; exact HP2.out.alloc _
    have hB3 : Below w.heap.size w W3 := by rw [hW3]; exact HB2.out.alloc HB2.out.size _
    have hpgz : pg < w2.heap.size := (HP2.out.lt pg rfl).2
    have hz2 := HB2.out.size
    have hz3 : W3.heap.size = w2.heap.size + 1 := by rw [hW3]; simp
    have HB3 : Hid (Below w.heap.size w W3) := hB3
    clear hL hW3 hB3 HP2 HB2
    obtain ⟨lg, hlg⟩ : ∃ lg, lg = w2.heap.size := ⟨_, rfl⟩
    rw [← hlg] at HL3 hpgz hz3 hz2 ⊢
    clear hlg
    go_wp2
    go_loopw [5, 6, 7] (fun f en i wr => ∃ (k : Nat) (F : ByteArray), k ≤ 3 ∧ f = .string F ∧ i = .int .i64 (k : Int) ∧ F.size ≤ 19000 ∧ Hid (F.data.toList = Words.frames (ts.take k)) ∧ Hid (wr.ownsRow (lg + 1) 3 1 en (k + 1) (cellsI (endsOf ts k))) ∧ Hid (wr.ownsRow lg 9 1 (.slice (some ⟨lg, 0, none⟩) 3 3) 3 (cellsS ts)) ∧ Hid (wr.ownsRow w.heap.size 3 1 (.slice (some ⟨pg, 0, none⟩) 12 pc) 12 (cellsI p1)) ∧ Hid (Below w.heap.size w wr) ∧ lg + 1 ≤ wr.heap.size)
      (fun _ _ i _ => 3 - (intOf i).toNat)
    case atStart => exact ⟨0, ⟨#[]⟩, by omega, rfl, rfl, by decide, rfl, ends_zero W3 ts _ hz3, HL3.out.alloc _, HP3.out.alloc _, HB3.out.alloc (by omega) _, by simp; omega⟩
    case round =>
      obtain ⟨k, F, hk, rfl, rfl, hFs, HFL, HEN, HLR, HPR, HBR, hzr⟩ := hrel
      clear HL3 HP3 HB3
      by_cases hlt : k < 3
      · have hk0 : (0 : Int) ≤ (k : Int) := by omega
        have hk1 : (k : Int) < 3 := by omega
        have hlk : k < ts.length := by have := HTS.out.1; omega
        obtain ⟨S, hS⟩ : ∃ S : ByteArray, S = ⟨ts[k].toArray⟩ := ⟨_, rfl⟩
        have hcS : wr.cell? ⟨lg, k, none⟩ = some (.string S) := by
          rw [HLR.out.cellAt k (by omega), hS]
          simp [cellsS, hlk]
        obtain ⟨G, hG⟩ : ∃ G, G = frameB S := ⟨_, rfl⟩
        have hSl : S.data.toList = ts[k] := by rw [hS]
        have hokS := HTS.out.2.1 ts[k] (List.getElem_mem hlk)
        rw [← hSl] at hokS
        have HFR : Hid (∀ wx, Calls Try.prog 10 #[.string S] wx fun e w' => e = .returned (.tuple #[.string G, .bool true]) ∧ Below wx.heap.size wx w') := fun wx => by rw [hG]; exact implFrame_yes S hokS.1 hokS.2 wx
        have hFG : (F ++ G).data.toList = Words.frames (ts.take (k + 1)) := by
          rw [List.take_succ_eq_append_getElem hlk, Words.frames_snoc, ← HFL.out, ← hSl, ← frameB_list, ← hG]; simp
        have hFGs : F.size + G.size = (Words.frames (ts.take (k + 1))).length := by
          rw [← hFG, Words.size_list, ByteArray.size_append]
        have hFGl : F.size + G.size ≤ 19000 := by
          rw [hFGs]; exact Nat.le_trans (Words.frames_take _ _) HTS.out.2.2
        have HFG : Hid ((F ++ G).data.toList = Words.frames (ts.take (k + 1))) := hFG
        have HFGS : Hid (F.size + G.size = (Words.frames (ts.take (k + 1))).length) := hFGs
        clear hS hG hSl hokS hFG hFGs hlk
        go_wp2_with (first | (go_at_call 10; refine (HFR.out _).mono ?_; rintro e w4 ⟨rfl, hb4⟩; have HEN4 : Hid (w4.ownsRow (lg + 1) 3 1 u6 (k + 1) (cellsI (endsOf ts k))) := own_kept HEN.out hb4; have hz4 : lg + 1 ≤ w4.heap.size := Nat.le_trans hzr hb4.size) | (at_builtin; refine wpList_append_own _ rfl _ _ 24 rfl (lg + 1) 3 j0 (.int .i64 0) 1 8 Try.underlying24 hj hy0 hy1 hy2 rfl (by decide) _ _ _ rfl (HEN4.out.alloc _) ⟨w4.heap.size, 0, none⟩ 1 1 [.int .i64 ((F.size : Int) + (G.size : Int))] rfl rfl ?c1 ?c2 ?c3 ?c4 ?c5 ?_))
        case c1 =>
          intro j u hj
          match j, hj with
          | 0, hj => simp at hj; subst hj; simp [Addr.add]
        case c2 => intro u hu; simp at hu; subst hu; rfl
        case c3 => unfold maxLen; omega
        case c4 => omega
        case c5 => simp; omega
        intro v' w5 hown5 hgrow _
        have HEN5 : Hid (w5.ownsRow (lg + 1) 3 1 v' (k + 1 + 1) (cellsI (endsOf ts (k + 1)))) := by
          show World.ownsRow _ _ _ _ _ _ _
          rw [ends_succ, cellsI_app, ← HFGS.out]; exact hown5
        have hneE : ∀ x, u6.ownBlock = some x → lg + 1 ≤ x := fun x hx => (HEN4.out.lt x hx).1
        have HL5 : Hid (w5.ownsRow lg 9 1 (.slice (some ⟨lg, 0, none⟩) 3 3) 3 (cellsS ts)) := ((own_kept HLR.out hb4).alloc _).kept hgrow (Or.inr (by intro e; have := hneE lg (by rw [← e]; rfl); omega))
        have HP5 : Hid (w5.ownsRow w.heap.size 3 1 (.slice (some ⟨pg, 0, none⟩) 12 pc) 12 (cellsI p1)) := ((own_kept HPR.out hb4).alloc _).kept hgrow (Or.inr (by intro e; have := hneE pg (by rw [← e]; rfl); omega))
        have HB5 : Hid (Below w.heap.size w w5) := ((HBR.out.trans (hb4.mono HBR.out.size)).alloc (by omega) _).grown hgrow (by simp; omega) (fun j hj => by have := hneE j hj; omega)
        have hz5 : lg + 1 ≤ w5.heap.size := by have := hgrow.size; simp at this; omega
        clear hown5 hgrow hb4 HEN4 hneE HEN HLR HPR HBR
        go_wp2
        go_roundw
        case rel => exact ⟨k + 1, F ++ G, by omega, rfl, by go_num, by rw [ByteArray.size_append]; omega, HFG, HEN5, HL5, HP5, HB5, hz5⟩
        case measure => simp [intOf]; omega
      · have hk3 : k = 3 := by omega
        subst hk3
        have hFT : F.data.toList = Words.frames ts := by rw [HFL.out, List.take_of_length_le (by have := HTS.out.1; omega)]
        have hzf : (F.size : Int) ≤ 20000 := by omega
        obtain ⟨P0, hP0, hP1⟩ : ∃ P0 : Nat, wr.cell? ⟨pg, 0, none⟩ = some (.int .i64 (P0 : Int)) ∧ P0 < 10000 := by
          have hp := HPB.out.1
          have h := HPB.out.2 p1[0] (List.getElem_mem _)
          refine ⟨p1[0].toNat, ?_, by omega⟩
          rw [HPR.out.cellAt 0 (by omega), Int.toNat_of_nonneg h.1]
          simp [cellsI, show 0 < p1.length by omega]
        obtain ⟨K, hK⟩ : ∃ K, K = P0 % (F.size + 1) := ⟨_, rfl⟩
        have hK1 : K ≤ F.size := by have := Nat.mod_lt P0 (show 0 < F.size + 1 by omega); omega
        have hmod : Int.tmod (P0 : Int) ((F.size : Int) + 1) = (K : Int) := by
          rw [hK, Int.tmod_eq_emod_of_nonneg (by omega), show ((F.size : Int) + 1) = ((F.size + 1 : Nat) : Int) by omega, Int.natCast_emod]
        obtain ⟨m, hm1, hm2, hm3, hm4⟩ := frames_part HTS.out.2.1 hFT (by omega) K hK1
        have HU1 : Hid (∀ wx, Calls Try.prog 11 #[.string F] wx fun e w' => ∃ v, e = .returned (.tuple #[v, .int .i64 (F.size : Int)]) ∧ w'.ownsRow wx.heap.size 9 1 v ts.length (cellsS ts) ∧ Below wx.heap.size wx w') := fun wx => frames_all HTS.out.2.1 hFT (by omega) wx
        obtain ⟨S2, hS2⟩ : ∃ S2, S2 = F.extract 0 K := ⟨_, rfl⟩
        obtain ⟨Z, hZ⟩ : ∃ Z, Z = (Words.frames (ts.take m)).length := ⟨_, rfl⟩
        have HU2 : Hid (∀ wx, Calls Try.prog 11 #[.string S2] wx fun e w' => ∃ v, e = .returned (.tuple #[v, .int .i64 (Z : Int)]) ∧ w'.ownsRow wx.heap.size 9 1 v m (cellsS (ts.take m)) ∧ Below wx.heap.size wx w') := by rw [hS2, hZ]; exact hm2
        have hsl : ∀ wx, (Instr.slice 9 (.string F) none (some (.int .i64 (K : Int))) none).run Try.prog wx = .ok (.string S2) wx := fun wx => by
          rw [run_slice_string_h wx 9 F Try.underlying9 .i64 _ (by omega) (by omega), hS2]; simp
        have hd0 : ¬ ((F.size : Int) + 1 = 0) := by omega
        have hm3' : m ≤ 3 := by have := HTS.out.1; omega
        have hZK : Z ≤ K := by rw [hZ]; exact hm3
        have hcZ : wr.ownsRow (lg + 1) 3 1 u6 (3 + 1) (cellsI (endsOf ts 3)) := HEN.out
        clear hK hm2 hS2 hFT
        have HM4 : Hid (m = ts.length ∨ K < (Words.frames (ts.take (m + 1))).length) := hm4
        have HZ : Hid (Z = (Words.frames (ts.take m)).length) := hZ
        obtain ⟨eg, ec, rfl⟩ : ∃ eg ec, u6 = .slice (some ⟨eg, 0, none⟩) (3 + 1) ec := by
          rcases hcZ.2 with ⟨_, h⟩ | ⟨g, cp, cu, h1, _⟩
          · omega
          · exact ⟨g, cp, h1⟩
        clear hm4 hZ hcZ hm3
        go_wp2_with fail
        refine (HU1.out _).mono ?_
        rintro e w6 ⟨v6, rfl, how6, hb6⟩
        have HO6 : Hid (w6.ownsRow wr.heap.size 9 1 v6 ts.length (cellsS ts)) := how6
        have HL6 : Hid (w6.ownsRow lg 9 1 (.slice (some ⟨lg, 0, none⟩) 3 3) 3 (cellsS ts)) := own_kept HLR.out hb6
        have HP6 : Hid (w6.ownsRow w.heap.size 3 1 (.slice (some ⟨pg, 0, none⟩) 12 pc) 12 (cellsI p1)) := own_kept HPR.out hb6
        have HE6 : Hid (w6.ownsRow (lg + 1) 3 1 (.slice (some ⟨eg, 0, none⟩) (3 + 1) ec) (3 + 1) (cellsI (endsOf ts 3))) := own_kept HEN.out hb6
        have HB6 : Hid (Below w.heap.size w w6) := HBR.out.trans (hb6.mono HBR.out.size)
        have cP6 : w6.cell? ⟨pg, 0, none⟩ = some (.int .i64 (P0 : Int)) := (hb6.cell (p := ⟨pg, 0, none⟩) (HPR.out.lt pg rfl).2).trans hP0
        clear how6 hb6 HLR HPR HEN HBR hP0
        go_wp2_with fail
        refine (same_any (ps := ts) (by have := HTS.out.1; omega) _ HO6.out (by rw [HTS.out.1]; exact HL6.out)).mono ?_
        rintro e w7 ⟨rfl, hh7, hb7⟩
        have HL7 : Hid (w7.ownsRow lg 9 1 (.slice (some ⟨lg, 0, none⟩) 3 3) 3 (cellsS ts)) := own_kept HL6.out hb7
        have HE7 : Hid (w7.ownsRow (lg + 1) 3 1 (.slice (some ⟨eg, 0, none⟩) (3 + 1) ec) (3 + 1) (cellsI (endsOf ts 3))) := own_kept HE6.out hb7
        have HB7 : Hid (Below w.heap.size w w7) := HB6.out.trans (hb7.mono HB6.out.size)
        have cP7 : w7.cell? ⟨pg, 0, none⟩ = some (.int .i64 (P0 : Int)) := (hb7.cell (p := ⟨pg, 0, none⟩) (HP6.out.lt pg rfl).2).trans cP6
        clear hh7 hb7 HL6 HE6 HB6 HP6 cP6 HO6
        go_wp2_with fail
        refine (HU2.out _).mono ?_
        rintro e w8 ⟨v8, rfl, how8, hb8⟩
        obtain ⟨sa, sc, rfl⟩ := own_slice how8
        have HO8 : Hid (w8.ownsRow w7.heap.size 9 1 (.slice sa m sc) m (cellsS (ts.take m))) := how8
        have HL8 : Hid (w8.ownsRow lg 9 1 (.slice (some ⟨lg, 0, none⟩) 3 3) 3 (cellsS ts)) := own_kept HL7.out hb8
        have HE8 : Hid (w8.ownsRow (lg + 1) 3 1 (.slice (some ⟨eg, 0, none⟩) (3 + 1) ec) (3 + 1) (cellsI (endsOf ts 3))) := own_kept HE7.out hb8
        have HB8 : Hid (Below w.heap.size w w8) := HB7.out.trans (hb8.mono HB7.out.size)
        clear how8 hb8 HL7 HE7 HB7 cP7
        have hml : (ts.take m).length = m := by rw [List.length_take]; have := HTS.out.1; omega
        have HML : Hid ((ts.take m).length = m) := hml
        have cE : w8.cell? ⟨eg, m, none⟩ = some (.int .i64 (Z : Int)) := by
          rw [HE8.out.cellAt m (by omega), HZ.out]
          exact ends_at ts m (by omega)
        have hZK' : (Z : Int) ≤ (K : Int) := by omega
        have hmi : (m : Int) ≤ 3 := by omega
        have hmi2 : (m : Int) < 4 := by omega
        have hmi0 : (0 : Int) ≤ (m : Int) := by omega
        clear hml
        by_cases hm : m = 3
        · have hmb : ((m : Int) == 3) = true := by simp [hm]
          clear hm
          go_wp2_with (go_at_call 12; refine (same_any (ps := ts.take m) (by rw [HML.out]; omega) _ (by rw [HML.out]; exact HO8.out) (own_take HL8.out m hm3' HTS.out.1)).mono ?_; rintro e w9 ⟨rfl, _, hb9⟩)
          go_ret
          exact ⟨rfl, HB8.out.trans (hb9.mono HB8.out.size)⟩
        · have hmb : ((m : Int) == 3) = false := beq_eq_false_iff_ne.2 (by omega)
          obtain ⟨Z1, hZ1⟩ : ∃ Z1, Z1 = (Words.frames (ts.take (m + 1))).length := ⟨_, rfl⟩
          have cE1 : w8.cell? ⟨eg, m + 1, none⟩ = some (.int .i64 (Z1 : Int)) := by
            rw [HE8.out.cellAt (m + 1) (by omega), hZ1]
            exact ends_at ts (m + 1) (by omega)
          have hEl := (HE8.out.lt eg rfl).2
          have hKZ : (K : Int) < (Z1 : Int) := by
            have := HM4.out
            have := HTS.out.1
            rw [← hZ1] at *
            omega
          have hmi3 : (m : Int) + 1 < 4 := by omega
          have hmi4 : (0 : Int) ≤ (m : Int) + 1 := by omega
          clear hm hZ1
          go_wp2_with (go_at_call 12; refine (same_any (ps := ts.take m) (by rw [HML.out]; omega) _ (by rw [HML.out]; exact HO8.out) (own_take HL8.out m hm3' HTS.out.1)).mono ?_; rintro e w9 ⟨rfl, _, hb9⟩; have cE9 : w9.cell? ⟨eg, m + 1, none⟩ = some (.int .i64 (Z1 : Int)) := (hb9.cell (p := ⟨eg, m + 1, none⟩) hEl).trans cE1)
          go_ret
          exact ⟨rfl, HB8.out.trans (hb9.mono HB8.out.size)⟩
  · have h1 : ((H.size : Int) == 0) = false := beq_eq_false_iff_ne.2 (by omega)
    by_cases hH1 : 9000 < H.size
    · have h2 : decide ((9000 : Int) < (H.size : Int)) = true := decide_eq_true (by omega)
      go_upto_region 7 with fail
      generalize hT : (⟨#[111, 110, 101]⟩ : ByteArray) = T
      have hT1 : 1 ≤ T.size := by rw [← hT]; decide
      have hT2 : T.size ≤ 9000 := by rw [← hT]; decide
      clear hT
      obtain ⟨ts, hts⟩ : ∃ ts, ts = recs T := ⟨_, rfl⟩
      have hL := HL.out T
      rw [← hts] at hL
      have HTS : Hid (ts.length = 3 ∧ (∀ t ∈ ts, Words.okRec t) ∧ (Words.frames ts).length ≤ 19000) := by show _ ∧ _; rw [hts]; exact recs_ok T hT1 hT2
      clear hts HL
      obtain ⟨W3, hW3⟩ : ∃ W3, W3 = w2.alloc (.cells #[.string T, .string ⟨#[116, 119, 111]⟩, .string ⟨#[116, 104, 114, 101, 101, 32, 97, 110, 100, 32, 109, 111, 114, 101]⟩] 9) := ⟨_, rfl⟩
      rw [← hW3] at hL ⊢
      have HL3 : Hid (W3.ownsRow w2.heap.size 9 1 (.slice (some ⟨w2.heap.size, 0, none⟩) 3 3) 3 (cellsS ts)) := hL
      have HP3 : Hid (W3.ownsRow w.heap.size 3 1 (.slice (some ⟨pg, 0, none⟩) 12 pc) 12 (cellsI p1)) := by show World.ownsRow _ _ _ _ _ _ _; rw [hW3]; exact HP2.out.alloc _
      have hB3 : Below w.heap.size w W3 := by rw [hW3]; exact HB2.out.alloc HB2.out.size _
      have hpgz : pg < w2.heap.size := (HP2.out.lt pg rfl).2
      have hz2 := HB2.out.size
      have hz3 : W3.heap.size = w2.heap.size + 1 := by rw [hW3]; simp
      have HB3 : Hid (Below w.heap.size w W3) := hB3
      clear hL hW3 hB3 HP2 HB2
      obtain ⟨lg, hlg⟩ : ∃ lg, lg = w2.heap.size := ⟨_, rfl⟩
      rw [← hlg] at HL3 hpgz hz3 hz2 ⊢
      clear hlg
      go_wp2
      go_loopw [5, 6, 7] (fun f en i wr => ∃ (k : Nat) (F : ByteArray), k ≤ 3 ∧ f = .string F ∧ i = .int .i64 (k : Int) ∧ F.size ≤ 19000 ∧ Hid (F.data.toList = Words.frames (ts.take k)) ∧ Hid (wr.ownsRow (lg + 1) 3 1 en (k + 1) (cellsI (endsOf ts k))) ∧ Hid (wr.ownsRow lg 9 1 (.slice (some ⟨lg, 0, none⟩) 3 3) 3 (cellsS ts)) ∧ Hid (wr.ownsRow w.heap.size 3 1 (.slice (some ⟨pg, 0, none⟩) 12 pc) 12 (cellsI p1)) ∧ Hid (Below w.heap.size w wr) ∧ lg + 1 ≤ wr.heap.size)
        (fun _ _ i _ => 3 - (intOf i).toNat)
      case atStart => exact ⟨0, ⟨#[]⟩, by omega, rfl, rfl, by decide, rfl, ends_zero W3 ts _ hz3, HL3.out.alloc _, HP3.out.alloc _, HB3.out.alloc (by omega) _, by simp; omega⟩
      case round =>
        obtain ⟨k, F, hk, rfl, rfl, hFs, HFL, HEN, HLR, HPR, HBR, hzr⟩ := hrel
        clear HL3 HP3 HB3
        by_cases hlt : k < 3
        · have hk0 : (0 : Int) ≤ (k : Int) := by omega
          have hk1 : (k : Int) < 3 := by omega
          have hlk : k < ts.length := by have := HTS.out.1; omega
          obtain ⟨S, hS⟩ : ∃ S : ByteArray, S = ⟨ts[k].toArray⟩ := ⟨_, rfl⟩
          have hcS : wr.cell? ⟨lg, k, none⟩ = some (.string S) := by
            rw [HLR.out.cellAt k (by omega), hS]
            simp [cellsS, hlk]
          obtain ⟨G, hG⟩ : ∃ G, G = frameB S := ⟨_, rfl⟩
          have hSl : S.data.toList = ts[k] := by rw [hS]
          have hokS := HTS.out.2.1 ts[k] (List.getElem_mem hlk)
          rw [← hSl] at hokS
          have HFR : Hid (∀ wx, Calls Try.prog 10 #[.string S] wx fun e w' => e = .returned (.tuple #[.string G, .bool true]) ∧ Below wx.heap.size wx w') := fun wx => by rw [hG]; exact implFrame_yes S hokS.1 hokS.2 wx
          have hFG : (F ++ G).data.toList = Words.frames (ts.take (k + 1)) := by
            rw [List.take_succ_eq_append_getElem hlk, Words.frames_snoc, ← HFL.out, ← hSl, ← frameB_list, ← hG]; simp
          have hFGs : F.size + G.size = (Words.frames (ts.take (k + 1))).length := by
            rw [← hFG, Words.size_list, ByteArray.size_append]
          have hFGl : F.size + G.size ≤ 19000 := by
            rw [hFGs]; exact Nat.le_trans (Words.frames_take _ _) HTS.out.2.2
          have HFG : Hid ((F ++ G).data.toList = Words.frames (ts.take (k + 1))) := hFG
          have HFGS : Hid (F.size + G.size = (Words.frames (ts.take (k + 1))).length) := hFGs
          clear hS hG hSl hokS hFG hFGs hlk
          go_wp2_with (first | (go_at_call 10; refine (HFR.out _).mono ?_; rintro e w4 ⟨rfl, hb4⟩; have HEN4 : Hid (w4.ownsRow (lg + 1) 3 1 u6 (k + 1) (cellsI (endsOf ts k))) := own_kept HEN.out hb4; have hz4 : lg + 1 ≤ w4.heap.size := Nat.le_trans hzr hb4.size) | (at_builtin; refine wpList_append_own _ rfl _ _ 24 rfl (lg + 1) 3 j0 (.int .i64 0) 1 8 Try.underlying24 hj hy0 hy1 hy2 rfl (by decide) _ _ _ rfl (HEN4.out.alloc _) ⟨w4.heap.size, 0, none⟩ 1 1 [.int .i64 ((F.size : Int) + (G.size : Int))] rfl rfl ?c1 ?c2 ?c3 ?c4 ?c5 ?_))
          case c1 =>
            intro j u hj
            match j, hj with
            | 0, hj => simp at hj; subst hj; simp [Addr.add]
          case c2 => intro u hu; simp at hu; subst hu; rfl
          case c3 => unfold maxLen; omega
          case c4 => omega
          case c5 => simp; omega
          intro v' w5 hown5 hgrow _
          have HEN5 : Hid (w5.ownsRow (lg + 1) 3 1 v' (k + 1 + 1) (cellsI (endsOf ts (k + 1)))) := by
            show World.ownsRow _ _ _ _ _ _ _
            rw [ends_succ, cellsI_app, ← HFGS.out]; exact hown5
          have hneE : ∀ x, u6.ownBlock = some x → lg + 1 ≤ x := fun x hx => (HEN4.out.lt x hx).1
          have HL5 : Hid (w5.ownsRow lg 9 1 (.slice (some ⟨lg, 0, none⟩) 3 3) 3 (cellsS ts)) := ((own_kept HLR.out hb4).alloc _).kept hgrow (Or.inr (by intro e; have := hneE lg (by rw [← e]; rfl); omega))
          have HP5 : Hid (w5.ownsRow w.heap.size 3 1 (.slice (some ⟨pg, 0, none⟩) 12 pc) 12 (cellsI p1)) := ((own_kept HPR.out hb4).alloc _).kept hgrow (Or.inr (by intro e; have := hneE pg (by rw [← e]; rfl); omega))
          have HB5 : Hid (Below w.heap.size w w5) := ((HBR.out.trans (hb4.mono HBR.out.size)).alloc (by omega) _).grown hgrow (by simp; omega) (fun j hj => by have := hneE j hj; omega)
          have hz5 : lg + 1 ≤ w5.heap.size := by have := hgrow.size; simp at this; omega
          clear hown5 hgrow hb4 HEN4 hneE HEN HLR HPR HBR
          go_wp2
          go_roundw
          case rel => exact ⟨k + 1, F ++ G, by omega, rfl, by go_num, by rw [ByteArray.size_append]; omega, HFG, HEN5, HL5, HP5, HB5, hz5⟩
          case measure => simp [intOf]; omega
        · have hk3 : k = 3 := by omega
          subst hk3
          have hFT : F.data.toList = Words.frames ts := by rw [HFL.out, List.take_of_length_le (by have := HTS.out.1; omega)]
          have hzf : (F.size : Int) ≤ 20000 := by omega
          obtain ⟨P0, hP0, hP1⟩ : ∃ P0 : Nat, wr.cell? ⟨pg, 0, none⟩ = some (.int .i64 (P0 : Int)) ∧ P0 < 10000 := by
            have hp := HPB.out.1
            have h := HPB.out.2 p1[0] (List.getElem_mem _)
            refine ⟨p1[0].toNat, ?_, by omega⟩
            rw [HPR.out.cellAt 0 (by omega), Int.toNat_of_nonneg h.1]
            simp [cellsI, show 0 < p1.length by omega]
          obtain ⟨K, hK⟩ : ∃ K, K = P0 % (F.size + 1) := ⟨_, rfl⟩
          have hK1 : K ≤ F.size := by have := Nat.mod_lt P0 (show 0 < F.size + 1 by omega); omega
          have hmod : Int.tmod (P0 : Int) ((F.size : Int) + 1) = (K : Int) := by
            rw [hK, Int.tmod_eq_emod_of_nonneg (by omega), show ((F.size : Int) + 1) = ((F.size + 1 : Nat) : Int) by omega, Int.natCast_emod]
          obtain ⟨m, hm1, hm2, hm3, hm4⟩ := frames_part HTS.out.2.1 hFT (by omega) K hK1
          have HU1 : Hid (∀ wx, Calls Try.prog 11 #[.string F] wx fun e w' => ∃ v, e = .returned (.tuple #[v, .int .i64 (F.size : Int)]) ∧ w'.ownsRow wx.heap.size 9 1 v ts.length (cellsS ts) ∧ Below wx.heap.size wx w') := fun wx => frames_all HTS.out.2.1 hFT (by omega) wx
          obtain ⟨S2, hS2⟩ : ∃ S2, S2 = F.extract 0 K := ⟨_, rfl⟩
          obtain ⟨Z, hZ⟩ : ∃ Z, Z = (Words.frames (ts.take m)).length := ⟨_, rfl⟩
          have HU2 : Hid (∀ wx, Calls Try.prog 11 #[.string S2] wx fun e w' => ∃ v, e = .returned (.tuple #[v, .int .i64 (Z : Int)]) ∧ w'.ownsRow wx.heap.size 9 1 v m (cellsS (ts.take m)) ∧ Below wx.heap.size wx w') := by rw [hS2, hZ]; exact hm2
          have hsl : ∀ wx, (Instr.slice 9 (.string F) none (some (.int .i64 (K : Int))) none).run Try.prog wx = .ok (.string S2) wx := fun wx => by
            rw [run_slice_string_h wx 9 F Try.underlying9 .i64 _ (by omega) (by omega), hS2]; simp
          have hd0 : ¬ ((F.size : Int) + 1 = 0) := by omega
          have hm3' : m ≤ 3 := by have := HTS.out.1; omega
          have hZK : Z ≤ K := by rw [hZ]; exact hm3
          have hcZ : wr.ownsRow (lg + 1) 3 1 u6 (3 + 1) (cellsI (endsOf ts 3)) := HEN.out
          clear hK hm2 hS2 hFT
          have HM4 : Hid (m = ts.length ∨ K < (Words.frames (ts.take (m + 1))).length) := hm4
          have HZ : Hid (Z = (Words.frames (ts.take m)).length) := hZ
          obtain ⟨eg, ec, rfl⟩ : ∃ eg ec, u6 = .slice (some ⟨eg, 0, none⟩) (3 + 1) ec := by
            rcases hcZ.2 with ⟨_, h⟩ | ⟨g, cp, cu, h1, _⟩
            · omega
            · exact ⟨g, cp, h1⟩
          clear hm4 hZ hcZ hm3
          go_wp2_with fail
          refine (HU1.out _).mono ?_
          rintro e w6 ⟨v6, rfl, how6, hb6⟩
          have HO6 : Hid (w6.ownsRow wr.heap.size 9 1 v6 ts.length (cellsS ts)) := how6
          have HL6 : Hid (w6.ownsRow lg 9 1 (.slice (some ⟨lg, 0, none⟩) 3 3) 3 (cellsS ts)) := own_kept HLR.out hb6
          have HP6 : Hid (w6.ownsRow w.heap.size 3 1 (.slice (some ⟨pg, 0, none⟩) 12 pc) 12 (cellsI p1)) := own_kept HPR.out hb6
          have HE6 : Hid (w6.ownsRow (lg + 1) 3 1 (.slice (some ⟨eg, 0, none⟩) (3 + 1) ec) (3 + 1) (cellsI (endsOf ts 3))) := own_kept HEN.out hb6
          have HB6 : Hid (Below w.heap.size w w6) := HBR.out.trans (hb6.mono HBR.out.size)
          have cP6 : w6.cell? ⟨pg, 0, none⟩ = some (.int .i64 (P0 : Int)) := (hb6.cell (p := ⟨pg, 0, none⟩) (HPR.out.lt pg rfl).2).trans hP0
          clear how6 hb6 HLR HPR HEN HBR hP0
          go_wp2_with fail
          refine (same_any (ps := ts) (by have := HTS.out.1; omega) _ HO6.out (by rw [HTS.out.1]; exact HL6.out)).mono ?_
          rintro e w7 ⟨rfl, hh7, hb7⟩
          have HL7 : Hid (w7.ownsRow lg 9 1 (.slice (some ⟨lg, 0, none⟩) 3 3) 3 (cellsS ts)) := own_kept HL6.out hb7
          have HE7 : Hid (w7.ownsRow (lg + 1) 3 1 (.slice (some ⟨eg, 0, none⟩) (3 + 1) ec) (3 + 1) (cellsI (endsOf ts 3))) := own_kept HE6.out hb7
          have HB7 : Hid (Below w.heap.size w w7) := HB6.out.trans (hb7.mono HB6.out.size)
          have cP7 : w7.cell? ⟨pg, 0, none⟩ = some (.int .i64 (P0 : Int)) := (hb7.cell (p := ⟨pg, 0, none⟩) (HP6.out.lt pg rfl).2).trans cP6
          clear hh7 hb7 HL6 HE6 HB6 HP6 cP6 HO6
          go_wp2_with fail
          refine (HU2.out _).mono ?_
          rintro e w8 ⟨v8, rfl, how8, hb8⟩
          obtain ⟨sa, sc, rfl⟩ := own_slice how8
          have HO8 : Hid (w8.ownsRow w7.heap.size 9 1 (.slice sa m sc) m (cellsS (ts.take m))) := how8
          have HL8 : Hid (w8.ownsRow lg 9 1 (.slice (some ⟨lg, 0, none⟩) 3 3) 3 (cellsS ts)) := own_kept HL7.out hb8
          have HE8 : Hid (w8.ownsRow (lg + 1) 3 1 (.slice (some ⟨eg, 0, none⟩) (3 + 1) ec) (3 + 1) (cellsI (endsOf ts 3))) := own_kept HE7.out hb8
          have HB8 : Hid (Below w.heap.size w w8) := HB7.out.trans (hb8.mono HB7.out.size)
          clear how8 hb8 HL7 HE7 HB7 cP7
          have hml : (ts.take m).length = m := by rw [List.length_take]; have := HTS.out.1; omega
          have HML : Hid ((ts.take m).length = m) := hml
          have cE : w8.cell? ⟨eg, m, none⟩ = some (.int .i64 (Z : Int)) := by
            rw [HE8.out.cellAt m (by omega), HZ.out]
            exact ends_at ts m (by omega)
          have hZK' : (Z : Int) ≤ (K : Int) := by omega
          have hmi : (m : Int) ≤ 3 := by omega
          have hmi2 : (m : Int) < 4 := by omega
          have hmi0 : (0 : Int) ≤ (m : Int) := by omega
          clear hml
          by_cases hm : m = 3
          · have hmb : ((m : Int) == 3) = true := by simp [hm]
            clear hm
            go_wp2_with (go_at_call 12; refine (same_any (ps := ts.take m) (by rw [HML.out]; omega) _ (by rw [HML.out]; exact HO8.out) (own_take HL8.out m hm3' HTS.out.1)).mono ?_; rintro e w9 ⟨rfl, _, hb9⟩)
            go_ret
            exact ⟨rfl, HB8.out.trans (hb9.mono HB8.out.size)⟩
          · have hmb : ((m : Int) == 3) = false := beq_eq_false_iff_ne.2 (by omega)
            obtain ⟨Z1, hZ1⟩ : ∃ Z1, Z1 = (Words.frames (ts.take (m + 1))).length := ⟨_, rfl⟩
            have cE1 : w8.cell? ⟨eg, m + 1, none⟩ = some (.int .i64 (Z1 : Int)) := by
              rw [HE8.out.cellAt (m + 1) (by omega), hZ1]
              exact ends_at ts (m + 1) (by omega)
            have hEl := (HE8.out.lt eg rfl).2
            have hKZ : (K : Int) < (Z1 : Int) := by
              have := HM4.out
              have := HTS.out.1
              rw [← hZ1] at *
              omega
            have hmi3 : (m : Int) + 1 < 4 := by omega
            have hmi4 : (0 : Int) ≤ (m : Int) + 1 := by omega
            clear hm hZ1
            go_wp2_with (go_at_call 12; refine (same_any (ps := ts.take m) (by rw [HML.out]; omega) _ (by rw [HML.out]; exact HO8.out) (own_take HL8.out m hm3' HTS.out.1)).mono ?_; rintro e w9 ⟨rfl, _, hb9⟩; have cE9 : w9.cell? ⟨eg, m + 1, none⟩ = some (.int .i64 (Z1 : Int)) := (hb9.cell (p := ⟨eg, m + 1, none⟩) hEl).trans cE1)
            go_ret
            exact ⟨rfl, HB8.out.trans (hb9.mono HB8.out.size)⟩
    · have h2 : decide ((9000 : Int) < (H.size : Int)) = false := decide_eq_false (by omega)
      go_upto_region 7 with fail
      obtain ⟨T, rfl⟩ : ∃ T, T = H := ⟨_, rfl⟩
      have hT1 : 1 ≤ T.size := by omega
      have hT2 : T.size ≤ 9000 := by omega
      obtain ⟨ts, hts⟩ : ∃ ts, ts = recs T := ⟨_, rfl⟩
      have hL := HL.out T
      rw [← hts] at hL
      have HTS : Hid (ts.length = 3 ∧ (∀ t ∈ ts, Words.okRec t) ∧ (Words.frames ts).length ≤ 19000) := by show _ ∧ _; rw [hts]; exact recs_ok T hT1 hT2
      clear hts HL
      obtain ⟨W3, hW3⟩ : ∃ W3, W3 = w2.alloc (.cells #[.string T, .string ⟨#[116, 119, 111]⟩, .string ⟨#[116, 104, 114, 101, 101, 32, 97, 110, 100, 32, 109, 111, 114, 101]⟩] 9) := ⟨_, rfl⟩
      rw [← hW3] at hL ⊢
      have HL3 : Hid (W3.ownsRow w2.heap.size 9 1 (.slice (some ⟨w2.heap.size, 0, none⟩) 3 3) 3 (cellsS ts)) := hL
      have HP3 : Hid (W3.ownsRow w.heap.size 3 1 (.slice (some ⟨pg, 0, none⟩) 12 pc) 12 (cellsI p1)) := by show World.ownsRow _ _ _ _ _ _ _; rw [hW3]; exact HP2.out.alloc _
      have hB3 : Below w.heap.size w W3 := by rw [hW3]; exact HB2.out.alloc HB2.out.size _
      have hpgz : pg < w2.heap.size := (HP2.out.lt pg rfl).2
      have hz2 := HB2.out.size
      have hz3 : W3.heap.size = w2.heap.size + 1 := by rw [hW3]; simp
      have HB3 : Hid (Below w.heap.size w W3) := hB3
      clear hL hW3 hB3 HP2 HB2
      obtain ⟨lg, hlg⟩ : ∃ lg, lg = w2.heap.size := ⟨_, rfl⟩
      rw [← hlg] at HL3 hpgz hz3 hz2 ⊢
      clear hlg
      go_wp2
      go_loopw [5, 6, 7] (fun f en i wr => ∃ (k : Nat) (F : ByteArray), k ≤ 3 ∧ f = .string F ∧ i = .int .i64 (k : Int) ∧ F.size ≤ 19000 ∧ Hid (F.data.toList = Words.frames (ts.take k)) ∧ Hid (wr.ownsRow (lg + 1) 3 1 en (k + 1) (cellsI (endsOf ts k))) ∧ Hid (wr.ownsRow lg 9 1 (.slice (some ⟨lg, 0, none⟩) 3 3) 3 (cellsS ts)) ∧ Hid (wr.ownsRow w.heap.size 3 1 (.slice (some ⟨pg, 0, none⟩) 12 pc) 12 (cellsI p1)) ∧ Hid (Below w.heap.size w wr) ∧ lg + 1 ≤ wr.heap.size)
        (fun _ _ i _ => 3 - (intOf i).toNat)
      case atStart => exact ⟨0, ⟨#[]⟩, by omega, rfl, rfl, by decide, rfl, ends_zero W3 ts _ hz3, HL3.out.alloc _, HP3.out.alloc _, HB3.out.alloc (by omega) _, by simp; omega⟩
      case round =>
        obtain ⟨k, F, hk, rfl, rfl, hFs, HFL, HEN, HLR, HPR, HBR, hzr⟩ := hrel
        clear HL3 HP3 HB3
        by_cases hlt : k < 3
        · have hk0 : (0 : Int) ≤ (k : Int) := by omega
          have hk1 : (k : Int) < 3 := by omega
          have hlk : k < ts.length := by have := HTS.out.1; omega
          obtain ⟨S, hS⟩ : ∃ S : ByteArray, S = ⟨ts[k].toArray⟩ := ⟨_, rfl⟩
          have hcS : wr.cell? ⟨lg, k, none⟩ = some (.string S) := by
            rw [HLR.out.cellAt k (by omega), hS]
            simp [cellsS, hlk]
          obtain ⟨G, hG⟩ : ∃ G, G = frameB S := ⟨_, rfl⟩
          have hSl : S.data.toList = ts[k] := by rw [hS]
          have hokS := HTS.out.2.1 ts[k] (List.getElem_mem hlk)
          rw [← hSl] at hokS
          have HFR : Hid (∀ wx, Calls Try.prog 10 #[.string S] wx fun e w' => e = .returned (.tuple #[.string G, .bool true]) ∧ Below wx.heap.size wx w') := fun wx => by rw [hG]; exact implFrame_yes S hokS.1 hokS.2 wx
          have hFG : (F ++ G).data.toList = Words.frames (ts.take (k + 1)) := by
            rw [List.take_succ_eq_append_getElem hlk, Words.frames_snoc, ← HFL.out, ← hSl, ← frameB_list, ← hG]; simp
          have hFGs : F.size + G.size = (Words.frames (ts.take (k + 1))).length := by
            rw [← hFG, Words.size_list, ByteArray.size_append]
          have hFGl : F.size + G.size ≤ 19000 := by
            rw [hFGs]; exact Nat.le_trans (Words.frames_take _ _) HTS.out.2.2
          have HFG : Hid ((F ++ G).data.toList = Words.frames (ts.take (k + 1))) := hFG
          have HFGS : Hid (F.size + G.size = (Words.frames (ts.take (k + 1))).length) := hFGs
          clear hS hG hSl hokS hFG hFGs hlk
          go_wp2_with (first | (go_at_call 10; refine (HFR.out _).mono ?_; rintro e w4 ⟨rfl, hb4⟩; have HEN4 : Hid (w4.ownsRow (lg + 1) 3 1 u6 (k + 1) (cellsI (endsOf ts k))) := own_kept HEN.out hb4; have hz4 : lg + 1 ≤ w4.heap.size := Nat.le_trans hzr hb4.size) | (at_builtin; refine wpList_append_own _ rfl _ _ 24 rfl (lg + 1) 3 j0 (.int .i64 0) 1 8 Try.underlying24 hj hy0 hy1 hy2 rfl (by decide) _ _ _ rfl (HEN4.out.alloc _) ⟨w4.heap.size, 0, none⟩ 1 1 [.int .i64 ((F.size : Int) + (G.size : Int))] rfl rfl ?c1 ?c2 ?c3 ?c4 ?c5 ?_))
          case c1 =>
            intro j u hj
            match j, hj with
            | 0, hj => simp at hj; subst hj; simp [Addr.add]
          case c2 => intro u hu; simp at hu; subst hu; rfl
          case c3 => unfold maxLen; omega
          case c4 => omega
          case c5 => simp; omega
          intro v' w5 hown5 hgrow _
          have HEN5 : Hid (w5.ownsRow (lg + 1) 3 1 v' (k + 1 + 1) (cellsI (endsOf ts (k + 1)))) := by
            show World.ownsRow _ _ _ _ _ _ _
            rw [ends_succ, cellsI_app, ← HFGS.out]; exact hown5
          have hneE : ∀ x, u6.ownBlock = some x → lg + 1 ≤ x := fun x hx => (HEN4.out.lt x hx).1
          have HL5 : Hid (w5.ownsRow lg 9 1 (.slice (some ⟨lg, 0, none⟩) 3 3) 3 (cellsS ts)) := ((own_kept HLR.out hb4).alloc _).kept hgrow (Or.inr (by intro e; have := hneE lg (by rw [← e]; rfl); omega))
          have HP5 : Hid (w5.ownsRow w.heap.size 3 1 (.slice (some ⟨pg, 0, none⟩) 12 pc) 12 (cellsI p1)) := ((own_kept HPR.out hb4).alloc _).kept hgrow (Or.inr (by intro e; have := hneE pg (by rw [← e]; rfl); omega))
          have HB5 : Hid (Below w.heap.size w w5) := ((HBR.out.trans (hb4.mono HBR.out.size)).alloc (by omega) _).grown hgrow (by simp; omega) (fun j hj => by have := hneE j hj; omega)
          have hz5 : lg + 1 ≤ w5.heap.size := by have := hgrow.size; simp at this; omega
          clear hown5 hgrow hb4 HEN4 hneE HEN HLR HPR HBR
          go_wp2
          go_roundw
          case rel => exact ⟨k + 1, F ++ G, by omega, rfl, by go_num, by rw [ByteArray.size_append]; omega, HFG, HEN5, HL5, HP5, HB5, hz5⟩
          case measure => simp [intOf]; omega
        · have hk3 : k = 3 := by omega
          subst hk3
          have hFT : F.data.toList = Words.frames ts := by rw [HFL.out, List.take_of_length_le (by have := HTS.out.1; omega)]
          have hzf : (F.size : Int) ≤ 20000 := by omega
          obtain ⟨P0, hP0, hP1⟩ : ∃ P0 : Nat, wr.cell? ⟨pg, 0, none⟩ = some (.int .i64 (P0 : Int)) ∧ P0 < 10000 := by
            have hp := HPB.out.1
            have h := HPB.out.2 p1[0] (List.getElem_mem _)
            refine ⟨p1[0].toNat, ?_, by omega⟩
            rw [HPR.out.cellAt 0 (by omega), Int.toNat_of_nonneg h.1]
            simp [cellsI, show 0 < p1.length by omega]
          obtain ⟨K, hK⟩ : ∃ K, K = P0 % (F.size + 1) := ⟨_, rfl⟩
          have hK1 : K ≤ F.size := by have := Nat.mod_lt P0 (show 0 < F.size + 1 by omega); omega
          have hmod : Int.tmod (P0 : Int) ((F.size : Int) + 1) = (K : Int) := by
            rw [hK, Int.tmod_eq_emod_of_nonneg (by omega), show ((F.size : Int) + 1) = ((F.size + 1 : Nat) : Int) by omega, Int.natCast_emod]
          obtain ⟨m, hm1, hm2, hm3, hm4⟩ := frames_part HTS.out.2.1 hFT (by omega) K hK1
          have HU1 : Hid (∀ wx, Calls Try.prog 11 #[.string F] wx fun e w' => ∃ v, e = .returned (.tuple #[v, .int .i64 (F.size : Int)]) ∧ w'.ownsRow wx.heap.size 9 1 v ts.length (cellsS ts) ∧ Below wx.heap.size wx w') := fun wx => frames_all HTS.out.2.1 hFT (by omega) wx
          obtain ⟨S2, hS2⟩ : ∃ S2, S2 = F.extract 0 K := ⟨_, rfl⟩
          obtain ⟨Z, hZ⟩ : ∃ Z, Z = (Words.frames (ts.take m)).length := ⟨_, rfl⟩
          have HU2 : Hid (∀ wx, Calls Try.prog 11 #[.string S2] wx fun e w' => ∃ v, e = .returned (.tuple #[v, .int .i64 (Z : Int)]) ∧ w'.ownsRow wx.heap.size 9 1 v m (cellsS (ts.take m)) ∧ Below wx.heap.size wx w') := by rw [hS2, hZ]; exact hm2
          have hsl : ∀ wx, (Instr.slice 9 (.string F) none (some (.int .i64 (K : Int))) none).run Try.prog wx = .ok (.string S2) wx := fun wx => by
            rw [run_slice_string_h wx 9 F Try.underlying9 .i64 _ (by omega) (by omega), hS2]; simp
          have hd0 : ¬ ((F.size : Int) + 1 = 0) := by omega
          have hm3' : m ≤ 3 := by have := HTS.out.1; omega
          have hZK : Z ≤ K := by rw [hZ]; exact hm3
          have hcZ : wr.ownsRow (lg + 1) 3 1 u6 (3 + 1) (cellsI (endsOf ts 3)) := HEN.out
          clear hK hm2 hS2 hFT
          have HM4 : Hid (m = ts.length ∨ K < (Words.frames (ts.take (m + 1))).length) := hm4
          have HZ : Hid (Z = (Words.frames (ts.take m)).length) := hZ
          obtain ⟨eg, ec, rfl⟩ : ∃ eg ec, u6 = .slice (some ⟨eg, 0, none⟩) (3 + 1) ec := by
            rcases hcZ.2 with ⟨_, h⟩ | ⟨g, cp, cu, h1, _⟩
            · omega
            · exact ⟨g, cp, h1⟩
          clear hm4 hZ hcZ hm3
          go_wp2_with fail
          refine (HU1.out _).mono ?_
          rintro e w6 ⟨v6, rfl, how6, hb6⟩
          have HO6 : Hid (w6.ownsRow wr.heap.size 9 1 v6 ts.length (cellsS ts)) := how6
          have HL6 : Hid (w6.ownsRow lg 9 1 (.slice (some ⟨lg, 0, none⟩) 3 3) 3 (cellsS ts)) := own_kept HLR.out hb6
          have HP6 : Hid (w6.ownsRow w.heap.size 3 1 (.slice (some ⟨pg, 0, none⟩) 12 pc) 12 (cellsI p1)) := own_kept HPR.out hb6
          have HE6 : Hid (w6.ownsRow (lg + 1) 3 1 (.slice (some ⟨eg, 0, none⟩) (3 + 1) ec) (3 + 1) (cellsI (endsOf ts 3))) := own_kept HEN.out hb6
          have HB6 : Hid (Below w.heap.size w w6) := HBR.out.trans (hb6.mono HBR.out.size)
          have cP6 : w6.cell? ⟨pg, 0, none⟩ = some (.int .i64 (P0 : Int)) := (hb6.cell (p := ⟨pg, 0, none⟩) (HPR.out.lt pg rfl).2).trans hP0
          clear how6 hb6 HLR HPR HEN HBR hP0
          go_wp2_with fail
          refine (same_any (ps := ts) (by have := HTS.out.1; omega) _ HO6.out (by rw [HTS.out.1]; exact HL6.out)).mono ?_
          rintro e w7 ⟨rfl, hh7, hb7⟩
          have HL7 : Hid (w7.ownsRow lg 9 1 (.slice (some ⟨lg, 0, none⟩) 3 3) 3 (cellsS ts)) := own_kept HL6.out hb7
          have HE7 : Hid (w7.ownsRow (lg + 1) 3 1 (.slice (some ⟨eg, 0, none⟩) (3 + 1) ec) (3 + 1) (cellsI (endsOf ts 3))) := own_kept HE6.out hb7
          have HB7 : Hid (Below w.heap.size w w7) := HB6.out.trans (hb7.mono HB6.out.size)
          have cP7 : w7.cell? ⟨pg, 0, none⟩ = some (.int .i64 (P0 : Int)) := (hb7.cell (p := ⟨pg, 0, none⟩) (HP6.out.lt pg rfl).2).trans cP6
          clear hh7 hb7 HL6 HE6 HB6 HP6 cP6 HO6
          go_wp2_with fail
          refine (HU2.out _).mono ?_
          rintro e w8 ⟨v8, rfl, how8, hb8⟩
          obtain ⟨sa, sc, rfl⟩ := own_slice how8
          have HO8 : Hid (w8.ownsRow w7.heap.size 9 1 (.slice sa m sc) m (cellsS (ts.take m))) := how8
          have HL8 : Hid (w8.ownsRow lg 9 1 (.slice (some ⟨lg, 0, none⟩) 3 3) 3 (cellsS ts)) := own_kept HL7.out hb8
          have HE8 : Hid (w8.ownsRow (lg + 1) 3 1 (.slice (some ⟨eg, 0, none⟩) (3 + 1) ec) (3 + 1) (cellsI (endsOf ts 3))) := own_kept HE7.out hb8
          have HB8 : Hid (Below w.heap.size w w8) := HB7.out.trans (hb8.mono HB7.out.size)
          clear how8 hb8 HL7 HE7 HB7 cP7
          have hml : (ts.take m).length = m := by rw [List.length_take]; have := HTS.out.1; omega
          have HML : Hid ((ts.take m).length = m) := hml
          have cE : w8.cell? ⟨eg, m, none⟩ = some (.int .i64 (Z : Int)) := by
            rw [HE8.out.cellAt m (by omega), HZ.out]
            exact ends_at ts m (by omega)
          have hZK' : (Z : Int) ≤ (K : Int) := by omega
          have hmi : (m : Int) ≤ 3 := by omega
          have hmi2 : (m : Int) < 4 := by omega
          have hmi0 : (0 : Int) ≤ (m : Int) := by omega
          clear hml
          by_cases hm : m = 3
          · have hmb : ((m : Int) == 3) = true := by simp [hm]
            clear hm
            go_wp2_with (go_at_call 12; refine (same_any (ps := ts.take m) (by rw [HML.out]; omega) _ (by rw [HML.out]; exact HO8.out) (own_take HL8.out m hm3' HTS.out.1)).mono ?_; rintro e w9 ⟨rfl, _, hb9⟩)
            go_ret
            exact ⟨rfl, HB8.out.trans (hb9.mono HB8.out.size)⟩
          · have hmb : ((m : Int) == 3) = false := beq_eq_false_iff_ne.2 (by omega)
            obtain ⟨Z1, hZ1⟩ : ∃ Z1, Z1 = (Words.frames (ts.take (m + 1))).length := ⟨_, rfl⟩
            have cE1 : w8.cell? ⟨eg, m + 1, none⟩ = some (.int .i64 (Z1 : Int)) := by
              rw [HE8.out.cellAt (m + 1) (by omega), hZ1]
              exact ends_at ts (m + 1) (by omega)
            have hEl := (HE8.out.lt eg rfl).2
            have hKZ : (K : Int) < (Z1 : Int) := by
              have := HM4.out
              have := HTS.out.1
              rw [← hZ1] at *
              omega
            have hmi3 : (m : Int) + 1 < 4 := by omega
            have hmi4 : (0 : Int) ≤ (m : Int) + 1 := by omega
            clear hm hZ1
            go_wp2_with (go_at_call 12; refine (same_any (ps := ts.take m) (by rw [HML.out]; omega) _ (by rw [HML.out]; exact HO8.out) (own_take HL8.out m hm3' HTS.out.1)).mono ?_; rintro e w9 ⟨rfl, _, hb9⟩; have cE9 : w9.cell? ⟨eg, m + 1, none⟩ = some (.int .i64 (Z1 : Int)) := (hb9.cell (p := ⟨eg, m + 1, none⟩) hEl).trans cE1)
            go_ret
            exact ⟨rfl, HB8.out.trans (hb9.mono HB8.out.size)⟩
set_option maxHeartbeats 1000000 in
set_option maxRecDepth 100000 in
theorem fnFrames_big {cap len : Nat} {a : Option Addr} (w : World) (h : 1048576 < len) :
    Calls Try.prog 3 #[.slice a len cap] w fun e w' => e = .returned (.bool true) ∧ Below w.heap.size w w' := by
  go_enter Try.func3, Try.ntmps3
  go_wp2_with fail
  refine (big_yes a len cap h _).mono ?_
  rintro e w0 ⟨rfl, rfl⟩
  go_wp2
  go_ret
  exact ⟨rfl, Below.refl _ _⟩
end Go.Proofs.Yteaioippomkliaa
