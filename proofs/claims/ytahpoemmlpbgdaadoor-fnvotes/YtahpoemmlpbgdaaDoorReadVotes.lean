/- ReadVotes of the program, walked over the records of a file. -/
import Derived.Test.YtahpoemmlpbgdaaDoorRdBal
import Derived.BigQuiet
namespace Go.Proofs.YtahpoemmlpbgdaaDoor
open Go.RowKit
set_option linter.unusedVariables false
set_option linter.unusedSimpArgs false

def tx (p : List UInt8) : ByteArray := ⟨p.toArray⟩
/-- What is told of records, one behind the other, up to the first that is no vote. -/
def goV : List (List UInt8) → Int → Int → Nat → Int × Int × Nat
  | [], t, n, e => (t, n, e)
  | p :: r, t, n, e => if balT (tx p) = -1 then (t, n, e) else goV r (balT (tx p)) (balN (tx p)) (e + (frameB (tx p)).size)
theorem bt_none {i j : Int} (h : btT i j = -1) : btN i j = 0 := by
  unfold btT btN at *
  by_cases hv : voteB i j = true
  · rw [if_pos hv] at h
    have := (voteB_iff.1 hv).1
    omega
  · rw [if_neg hv]
theorem bal_none {u : ByteArray} (h : balT u = -1) : balN u = 0 := by
  rcases tornV_or u with ht | ⟨i, j, a, b, hg⟩
  · exact (bal_torn ht).2
  · obtain ⟨e1, e2⟩ := bal_gets hg
    by_cases hb : b = u.size
    · rw [if_pos hb] at e1 e2
      rw [e2]; exact bt_none (by rw [← e1]; exact h)
    · rw [e2, if_neg hb]
/-- What the walk holds. -/
structure VS (w : World) (lb : Nat) (v : Value) (ps : List (List UInt8)) (t n : Int) (W : World) : Prop where
  lst : W.ownsRow w.heap.size 9 1 v ps.length (cellsS ps)
  log : W.heap[lb]? = some (.cells #[.int .i64 t, .int .i64 n] 36 (0, 0))
  bel : Below w.heap.size w W
  nob : NoB W
theorem VS.same {w W W' : World} {lb : Nat} {v : Value} {ps : List (List UInt8)} {t n : Int} (h : VS w lb v ps t n W) (hb : Below W.heap.size W W') : VS w lb v ps t n W' :=
  ⟨own_kept h.lst hb, blk_kept h.log hb, h.bel.trans (hb.mono h.bel.size), h.nob.up hb⟩
theorem VS.set {w W : World} {lb : Nat} {v : Value} {ps : List (List UInt8)} {t n : Int} (h : VS w lb v ps t n W) (hlb : w.heap.size ≤ lb) (h0 : 0 < w.heap.size) (t' n' : Int) : VS w lb v ps t' n' ((W.setCell ⟨lb, 0, none⟩ (.int .i64 t')).setCell ⟨lb, 1, none⟩ (.int .i64 n')) := by
  have hn := own_not h.lst h.log (by decide)
  refine ⟨own_set (own_set h.lst lb 0 _ hn) lb 1 _ hn, two_set h.log _ _, (h.bel.setCell (p := ⟨lb, 0, none⟩) hlb _).setCell (p := ⟨lb, 1, none⟩) hlb _, ?_⟩
  exact (h.nob.grown (grown_set _ lb 0 _) (by omega)).grown (grown_set _ lb 1 _) (by omega)
theorem frameB_size {p : List UInt8} (h : p.length ≤ 9000) : (frameB (tx p)).size ≤ 19000 := by
  have h1 : (frameB (tx p)).size = (frameB (tx p)).data.toList.length := Array.length_toList.symm
  rw [h1, frameB_list]
  have h2 := Words.var_len p.length
  simp [Words.frame, tx, Sums.four]
  omega
set_option maxHeartbeats 4000000 in
set_option maxRecDepth 100000 in
theorem implRV_is (s : ByteArray) {ps : List (List UInt8)} {z : Nat} (hu : ∀ W : World, Calls Tryd.prog 20 #[.string s] W fun e w' => ∃ v, e = .returned (unT v z) ∧ w'.ownsRow W.heap.size 9 1 v ps.length (cellsS ps) ∧ Below W.heap.size W w') (hpl : ps.length ≤ 20000) (hps : ∀ p ∈ ps, 1 ≤ p.length ∧ p.length ≤ 9000)
    {T N : Int} {E : Nat} (hR : goV ps 0 0 0 = (T, N, E)) (w : World) (hN : NoB w) : Calls Tryd.prog 9 #[.string s] w fun en w' => en = .returned (.tuple #[.int .i64 T, .int .i64 N, .int .i64 (E : Int)]) ∧ Below w.heap.size w w' := by
  have HPS : Hid (∀ p ∈ ps, 1 ≤ p.length ∧ p.length ≤ 9000) := hps
  have HU : Hid (Calls Tryd.prog 20 #[.string s] w fun e w' => ∃ v, e = .returned (unT v z) ∧ w'.ownsRow w.heap.size 9 1 v ps.length (cellsS ps) ∧ Below w.heap.size w w') := hu w
  have HR : Hid (goV ps 0 0 0 = (T, N, E)) := hR
  have HN : Hid (NoB w) := hN
  have HW0 : Hid (0 < w.heap.size) := hN.2.2
  clear hu hps hR hN
  go_enter Tryd.func9, Tryd.ntmps9
  go_wp2_with fail
  refine Calls.mono HU.out ?_
  rintro en w2 ⟨lv, rfl, hown, hb2⟩
  obtain ⟨va, vc, rfl⟩ := own_slice hown
  unfold unT
  obtain ⟨W, hW⟩ : ∃ W, W = w2.alloc (Obj.cells #[.int .i64 0, .int .i64 0] 36) := ⟨_, rfl⟩
  obtain ⟨lb, hlb⟩ : ∃ lb, lb = w2.heap.size := ⟨_, rfl⟩
  have HLB : Hid (w.heap.size ≤ lb) := by show _ ≤ _; rw [hlb]; exact hb2.size
  have HS0 : Hid (VS w lb (.slice va ps.length vc) ps 0 0 W) := by
    have hb3 : Below w2.heap.size w2 W := by rw [hW]; exact (Below.refl _ _).alloc (Nat.le_refl _) _
    exact ⟨own_kept hown hb3, by rw [hW, hlb]; exact heap_alloc_new w2 _, hb2.trans (hb3.mono hb2.size), (HN.out.up hb2).up hb3⟩
  clear hown hb2 HU
  go_wp2_with fail
  rw [← hW, ← hlb]
  clear hW hlb
  go_loopw [8, 21] (fun en i wr => ∃ (k : Nat) (t n : Int) (e : Nat), k ≤ ps.length ∧ i = .int .i64 (k : Int) ∧ en = .int .i64 (e : Int) ∧ e ≤ 19000 * k ∧ Hid (goV (ps.drop k) t n e = (T, N, E)) ∧ Hid (VS w lb (.slice va ps.length vc) ps t n wr)) (fun _ i _ => ps.length + 1 - (intOf i).toNat)
  case atStart => exact ⟨0, 0, 0, 0, Nat.zero_le _, rfl, rfl, Nat.zero_le _, HR, HS0⟩
  case round =>
    obtain ⟨k, t, n, e, hk, rfl, rfl, he, HG, HS⟩ := hrel
    clear HS0 HR
    by_cases hlt : k < ps.length
    · obtain ⟨ga, hga⟩ : ∃ ga : Nat, va = some ⟨ga, 0, none⟩ := by
        rcases HS.out.lst.2 with ⟨h1, h2⟩ | ⟨g, c, cur, h1, _⟩
        · omega
        · simp at h1; exact ⟨g, h1.1⟩
      subst hga
      have hk0 : (0 : Int) ≤ (k : Int) := by omega
      have hk2 : (k : Int) < (ps.length : Int) := by omega
      have ct := cell_at HS.out.lst k hlt
      obtain ⟨p, hp⟩ : ∃ p, p = ps[k] := ⟨_, rfl⟩
      have HP : Hid (1 ≤ p.length ∧ p.length ≤ 9000) := by rw [hp]; exact HPS.out _ (List.getElem_mem _)
      obtain ⟨u, hu⟩ : ∃ u, u = tx p := ⟨_, rfl⟩
      have hus : u.size = p.length := by rw [hu]; simp [tx, ByteArray.size]
      have hus2 : u.size ≤ 1048576 := by have := HP.out; omega
      have ct2 : wr.cell? ⟨ga, k, none⟩ = some (.string u) := by rw [hu, hp]; simpa [tx] using ct
      have HDR : Hid (ps.drop k = p :: ps.drop (k + 1)) := by rw [hp]; exact List.drop_eq_getElem_cons hlt
      obtain ⟨X, hX⟩ : ∃ X, X = balT u := ⟨_, rfl⟩
      obtain ⟨Y, hY⟩ : ∃ Y, Y = balN u := ⟨_, rfl⟩
      have HC : Hid (Calls Tryd.prog 21 #[.string u] wr fun en w' => en = .returned (.agg #[.int .i64 X, .int .i64 Y]) ∧ Below wr.heap.size wr w') := by rw [hX, hY]; exact readBallot_is hus2 wr HS.out.nob
      obtain ⟨FB, hFB⟩ : ∃ FB, FB = frameB u := ⟨_, rfl⟩
      have HF : Hid (∀ W, Calls Tryd.prog 16 #[.string u] W fun en w' => en = .returned (.tuple #[.string FB, .bool true]) ∧ Below W.heap.size W w') := fun W => by rw [hFB]; exact implFrame_yes u (by have := HP.out; omega) (by have := HP.out; omega) W
      have hfs : FB.size ≤ 19000 := by rw [hFB, hu]; exact frameB_size HP.out.2
      have hg := HG.out
      rw [HDR.out] at hg
      unfold goV at hg
      rw [← hu, ← hX, ← hY, ← hFB] at hg
      have hYX : X = -1 → Y = 0 := fun h => by rw [hY]; exact bal_none (by rw [← hX]; exact h)
      clear ct hp hX hY hFB hu HG
      by_cases hx : X = -1
      · rw [if_pos hx] at hg
        obtain ⟨rfl, rfl, rfl⟩ : t = T ∧ n = N ∧ e = E := by simpa using hg
        have hy := hYX hx
        subst hx hy
        clear hYX hg
        go_wp2_with fail
        refine Calls.mono HC.out ?_
        rintro en w4 ⟨rfl, hb4⟩
        obtain ⟨n0, n1, n2⟩ := (HS.out.same hb4).nob.alloc (Obj.cells #[.int .i64 (-1), .int .i64 0] 36)
        have hS5 := (HS.out.same hb4).same ((Below.refl w4.heap.size w4).alloc (Nat.le_refl _) (Obj.cells #[.int .i64 (-1), .int .i64 0] 36))
        have HB5 : Hid (Below w.heap.size w (w4.alloc (Obj.cells #[.int .i64 (-1), .int .i64 0] 36))) := hS5.bel
        obtain ⟨l0, l1⟩ := two_at hS5.log
        clear hb4 HC hS5 ct2
        go_wp2_with fail
        go_quiet (fail)
        go_wp2
        exact bodyPost_ret (v := .tuple #[.int .i64 t, .int .i64 n, .int .i64 (e : Int)]) (by simp [results, Tryd.results9, go_sem]) rfl ⟨rfl, below_drewN HB5.out _⟩
      · rw [if_neg hx] at hg
        have hxf : ((X : Int) == -1) = false := by simpa using hx
        have HGN : Hid (goV (ps.drop (k + 1)) X Y (e + FB.size) = (T, N, E)) := hg
        clear hYX hg hx
        go_wp2_with fail
        refine Calls.mono HC.out ?_
        rintro en w4 ⟨rfl, hb4⟩
        obtain ⟨n0, n1, n2⟩ := (HS.out.same hb4).nob.alloc (Obj.cells #[.int .i64 X, .int .i64 Y] 36)
        obtain ⟨W5, hW5⟩ : ∃ W5, W5 = w4.alloc (Obj.cells #[.int .i64 X, .int .i64 Y] 36) := ⟨_, rfl⟩
        have hS5 : VS w lb (.slice (some ⟨ga, 0, none⟩) ps.length vc) ps t n W5 := by rw [hW5]; exact (HS.out.same hb4).same ((Below.refl w4.heap.size w4).alloc (Nat.le_refl _) (Obj.cells #[.int .i64 X, .int .i64 Y] 36))
        have HS6 : Hid (VS w lb (.slice (some ⟨ga, 0, none⟩) ps.length vc) ps X Y ((W5.setCell ⟨lb, 0, none⟩ (.int .i64 X)).setCell ⟨lb, 1, none⟩ (.int .i64 Y))) := hS5.set HLB.out HW0.out X Y
        obtain ⟨l0, l1⟩ := two_at hS5.log
        have lf0 := frozen_of_row _ _ 0 _ _ hS5.log
        have lf1 := frozen_of_row _ _ 1 _ _ hS5.log
        rw [hW5] at l0 l1 lf0 lf1
        clear hb4 HC hS5 ct2
        go_wp2_with fail
        rw [← hW5]
        clear n0 n1 n2 l0 l1 lf0 lf1 hW5
        refine Calls.mono (HF.out _) ?_
        rintro en w8 ⟨rfl, hb8⟩
        have HS8 : Hid (VS w lb (.slice (some ⟨ga, 0, none⟩) ps.length vc) ps X Y w8) := HS6.out.same hb8
        clear hb8 HS6 HF
        go_wp2
        go_roundw
        case rel => exact ⟨k + 1, X, Y, e + FB.size, by omega, by go_num, by go_num, by omega, HGN, HS8⟩
        case measure => simp [intOf]; omega
    · have hge : ¬ (k : Int) < (ps.length : Int) := by omega
      have hg := HG.out
      rw [List.drop_of_length_le (by omega)] at hg
      obtain ⟨rfl, rfl, rfl⟩ : t = T ∧ n = N ∧ e = E := by simpa [goV] using hg
      obtain ⟨l0, l1⟩ := two_at HS.out.log
      have HB5 : Hid (Below w.heap.size w wr) := HS.out.bel
      clear hg
      go_wp2_with fail
      go_quiet (fail)
      go_wp2
      exact bodyPost_ret (v := .tuple #[.int .i64 t, .int .i64 n, .int .i64 (e : Int)]) (by simp [results, Tryd.results9, go_sem]) rfl ⟨rfl, below_drewN HB5.out _⟩
end Go.Proofs.YtahpoemmlpbgdaaDoor
