/- Lists of leaders: szLeaderS, toLeaderS, eqLeaderS, walked. -/
import Derived.Test.YtddmogggdckneaaLLd
namespace Go.Proofs.Ytddmogggdckneaa
open Go.RowKit
set_option linter.unusedVariables false
set_option linter.unusedSimpArgs false
set_option maxHeartbeats 2000000 in
set_option maxRecDepth 100000 in
theorem szLdS_is {a : Option Addr} {g off cap : Nat} (cs : List LcL) (l : List LdL) (hlen : l.length ≤ maxLen) (hsz : ∀ r ∈ l, smallLd maxLen r) (left : Nat) (hl : left ≤ 1048576) (w : World) (hf : LdAt w a g off cs l) :
    Calls Try.prog 24 #[.slice a l.length cap, .int .i64 (left : Int)] w fun e w' => ∃ x : Int, e = .returned (.int .i64 x) ∧ Left left (totLd l) x ∧ Below w.heap.size w w' := by
  have HF : Hid (LdAt w a g off cs l) := hf
  have HS : Hid (∀ r ∈ l, smallLd maxLen r) := hsz
  clear hf hsz
  unfold maxLen at hlen
  by_cases h0 : left < l.length
  · have h1 : (left : Int) - (l.length : Int) < 0 := by omega
    go_enter Try.func24, Try.ntmps24
    go_wp2
    go_ret
    exact ⟨_, rfl, Or.inr ⟨by have := totLd_len l; omega, rfl⟩, Below.refl _ _⟩
  · have h1 : ¬ (left : Int) - (l.length : Int) < 0 := by omega
    go_enter Try.func24, Try.ntmps24
    go_wp2
    go_loopw [1, 5] (fun x i wr => ∃ k R : Nat, k ≤ l.length ∧ i = .int .i64 (k : Int) ∧ x = .int .i64 (R : Int) ∧ R + totLd (l.take k) + (l.length - k) = left ∧ Below w.heap.size w wr)
      (fun _ i _ => l.length - (intOf i).toNat)
    case atStart => exact ⟨0, left - l.length, Nat.zero_le _, rfl, by go_num, by simp [totLd]; omega, Below.refl _ _⟩
    case round =>
      obtain ⟨k, R, hk, rfl, rfl, hR, hbel⟩ := hrel
      by_cases hlt : k < l.length
      · have hltc : k < cs.length := by rw [HF.out.2.1]; exact hlt
        have hcc := (HF.out.1.kept hbel).2 k hltc
        have hone := (HF.out.2.kept hbel).2 k hltc hlt
        have ea := HF.out.1.1 (by omega)
        subst ea
        have hs := HS.out l[k] (List.getElem_mem _)
        have HT1 : Hid _ := totLd_take hlt
        obtain ⟨C, hC⟩ : ∃ C, C = cs[k] := ⟨_, rfl⟩
        rw [← hC] at hcc hone
        have HONE : Hid _ := hone
        clear hC hone hltc
        obtain ⟨F0, F1, F2, F3, b, n, cb⟩ := C
        obtain ⟨c0, c1, c2, c3, c4⟩ := hcc
        obtain ⟨Z, hZ⟩ : ∃ Z, Z = totEn l[k].log.ents := ⟨_, rfl⟩
        have HZ : Hid (Z = totEn l[k].log.ents) := hZ
        have HS1 : Hid _ := hs
        clear hZ hs
        have hk0 : (0 : Int) ≤ (k : Int) := by omega
        have hk1 : (k : Int) < (l.length : Int) := by omega
        have hRl : R ≤ 1048576 := by omega
        go_wp2_with fail
        refine (szLd1_is ⟨F0, F1, F2, F3, b, n, cb⟩ l[k] HS1.out R hRl wr HONE.out).mono ?_
        rintro e w1 ⟨x, rfl, hx, hb1⟩
        rw [← HZ.out] at hx
        rcases hx with ⟨hx1, hx2⟩ | ⟨hx1, hx2⟩
        · obtain ⟨Y, hY⟩ : ∃ Y : Nat, Y = R - Z := ⟨_, rfl⟩
          rw [← hY] at hx2
          subst hx2
          have HY : Hid (Y = R - Z) := hY
          clear hY
          have hB : Below w.heap.size w w1 := hbel.trans (hb1.mono hbel.size)
          go_wp2
          go_roundw
          case rel => exact ⟨k + 1, Y, by omega, by go_num, rfl, by rw [HT1.out, ← HZ.out]; have := HY.out; omega, hB⟩
          case measure => simp [intOf]; omega
        · subst hx2
          have hB : Below w.heap.size w w1 := hbel.trans (hb1.mono hbel.size)
          have hno : ¬ totLd l ≤ left := by
            have e1 := totLd_app (l.take (k + 1)) (l.drop (k + 1))
            rw [List.take_append_drop] at e1
            have e2 := totLd_len (l.drop (k + 1))
            rw [List.length_drop] at e2
            have := HT1.out
            rw [← HZ.out] at this
            omega
          have HN : Hid (¬ totLd l ≤ left) := hno
          clear hno
          go_wp2
          go_ret
          exact ⟨_, rfl, Or.inr ⟨HN.out, rfl⟩, hB⟩
      · have hk1 : ¬ (k : Int) < (l.length : Int) := by omega
        have HN : Hid (totLd l + R = left) := by
          show _ = _
          rw [List.take_of_length_le (by omega)] at hR
          omega
        clear hR
        go_wp2
        go_ret
        exact ⟨_, rfl, Or.inl ⟨by have := HN.out; omega, by have := HN.out; omega⟩, hbel⟩
theorem OneLd.far {w : World} {c : LcL} {r : LdL} {q : Nat} (h : ∃ g1, q < g1 ∧ c = lcOf r (some ⟨g1, 0, none⟩) r.log.ents.length ∧ EnAt w (some ⟨g1, 0, none⟩) g1 0 r.log.ents) (j : Nat) (v : Value) :
    ∃ g1, q < g1 ∧ c = lcOf r (some ⟨g1, 0, none⟩) r.log.ents.length ∧ EnAt (w.setCell ⟨q, j, none⟩ v) (some ⟨g1, 0, none⟩) g1 0 r.log.ents := by
  obtain ⟨g1, h1, h2, h3⟩ := h
  refine ⟨g1, h1, h2, h3.1, fun i hi => ?_⟩
  obtain ⟨d0, d1, d2⟩ := h3.2 i hi
  have far : ∀ (p : Addr) (u : Value), p.block = g1 → w.cell? p = some u → (w.setCell ⟨q, j, none⟩ v).cell? p = some u := fun p u hp hu =>
    (grown_set w q j v).cell hu (fun e => by have := Option.some.inj e; omega)
  exact ⟨far _ _ rfl d0, far _ _ rfl d1, far _ _ rfl d2⟩
/-- A leader whose entries lie behind q. -/
def OwnLd (w : World) (q : Nat) (c : LcL) (r : LdL) : Prop := ∃ g1, q < g1 ∧ c = lcOf r (some ⟨g1, 0, none⟩) r.log.ents.length ∧ EnAt w (some ⟨g1, 0, none⟩) g1 0 r.log.ents
theorem OwnLd.set {w : World} {q : Nat} {c : LcL} {r : LdL} (h : OwnLd w q c r) (j : Nat) (v : Value) : OwnLd (w.setCell ⟨q, j, none⟩ v) q c r := OneLd.far h j v
theorem OwnLd.kept {w w' : World} {q : Nat} {c : LcL} {r : LdL} (h : OwnLd w q c r) (hb : Below w.heap.size w w') : OwnLd w' q c r := by
  obtain ⟨g1, h1, h2, h3⟩ := h
  exact ⟨g1, h1, h2, h3.kept hb⟩
theorem OwnLd.one {w : World} {q : Nat} {c : LcL} {r : LdL} (h : OwnLd w q c r) : OneLd w c r := by
  obtain ⟨g1, h1, h2, h3⟩ := h
  exact ⟨_, g1, 0, _, h2, h3⟩
/-- A copy of leaders: a row of the call's own, the entries with it. -/
def CopyLdS (w : World) (l : List LdL) (e : Ending) (w' : World) : Prop := ∃ cs, e = .returned (.slice (some ⟨w.heap.size, 0, none⟩) l.length l.length) ∧ LdAt w' (some ⟨w.heap.size, 0, none⟩) w.heap.size 0 cs l ∧ Below w.heap.size w w'
set_option maxHeartbeats 4000000 in
set_option maxRecDepth 100000 in
theorem toLdS_is {a : Option Addr} {g off cap : Nat} (cs : List LcL) (l : List LdL) (hlen : l.length ≤ 1048576) (hsm : ∀ r ∈ l, smallLd 1048576 r) (w : World) (hf : LdAt w a g off cs l) :
    Calls Try.prog 26 #[.slice a l.length cap] w (CopyLdS w l) := by
  obtain ⟨i0, hi, hz0, hz1, hz2⟩ := info_parts Try.info104
  have HF : Hid (LdAt w a g off cs l) := hf
  have HS : Hid (∀ r ∈ l, smallLd 1048576 r) := hsm
  clear hf hsm
  go_enter Try.func26, Try.ntmps26
  go_wp2_with (at_make; refine wpList_make_full _ rfl _ _ 54 rfl w.heap.size 104 i0 (.agg #[Value.int .i64 0, Value.int .i64 0, Value.int .i64 0, Value.int .i64 0, Value.slice none 0 0]) 5 Try.underlying54 hi hz0 hz1 _ _ _ _ l.length rfl rfl (by omega) (by omega) ?b2 ?b3 (Nat.le_refl _) ?_)
  case b2 => rw [hz2]; omega
  case b3 => unfold maxLen; omega
  intro w0 hown0 hgrow0
  have hbel0 : Below w.heap.size w w0 := (Below.refl _ _).grown hgrow0 (Nat.le_refl _) (by simp)
  have hown0' : w0.ownsRow w.heap.size 104 5 (.slice (some ⟨w.heap.size, 0, none⟩) l.length l.length) l.length (cellsLc (List.replicate l.length ⟨0, 0, 0, 0, (none, 0, 0)⟩)) := by rw [← madeLc]; exact hown0
  clear hgrow0 hown0
  go_wp2
  go_loopw [4] (fun i wr => ∃ (k : Nat) (pre : List LcL), k ≤ l.length ∧ i = .int .i64 (k : Int) ∧ Hid (pre.length = l.length) ∧ Hid (∀ j (h : j < pre.length) (h' : j < l.length), j < k → OwnLd wr w.heap.size pre[j] l[j]) ∧
      Hid (wr.ownsRow w.heap.size 104 5 (.slice (some ⟨w.heap.size, 0, none⟩) l.length l.length) l.length (cellsLc pre)) ∧ Below w.heap.size w wr)
    (fun i _ => l.length - (intOf i).toNat)
  case atStart => exact ⟨0, _, Nat.zero_le _, rfl, by show _ = _; simp, fun j h h' hj => by omega, hown0', hbel0⟩
  case round =>
    obtain ⟨k, pre, hk, rfl, HL, HT, HO, hbel⟩ := hrel
    clear hown0' hbel0
    by_cases hlt : k < l.length
    · have hltc : k < cs.length := by rw [HF.out.2.1]; exact hlt
      have hcc := (HF.out.1.kept hbel).2 k hltc
      have hone := (HF.out.2.kept hbel).2 k hltc hlt
      have ea := HF.out.1.1 (by omega)
      subst ea
      have hs := HS.out l[k] (List.getElem_mem _)
      obtain ⟨C, hC⟩ : ∃ C, C = cs[k] := ⟨_, rfl⟩
      rw [← hC] at hcc hone
      have HONE : Hid _ := hone
      have HS1 : Hid _ := hs
      clear hC hone hltc hs
      obtain ⟨F0, F1, F2, F3, b, n, cb⟩ := C
      obtain ⟨c0, c1, c2, c3, c4⟩ := hcc
      have hk0 : (0 : Int) ≤ (k : Int) := by omega
      have hk1 : (k : Int) < (l.length : Int) := by omega
      have hwz : w.heap.size < wr.heap.size := (HO.out.lt w.heap.size rfl).2
      go_wp2_with fail
      refine (toLd1_is ⟨F0, F1, F2, F3, b, n, cb⟩ l[k] HS1.out.1 wr HONE.out).mono ?_
      rintro e w1 hp
      unfold CopyLd at hp
      obtain ⟨g1, hg1, rfl, hen, hb1⟩ := hp
      obtain ⟨D, hD⟩ : ∃ D, D = lcOf l[k] (some ⟨g1, 0, none⟩) l[k].log.ents.length := ⟨_, rfl⟩
      have hold : OwnLd w1 w.heap.size D l[k] := ⟨g1, by omega, hD, hen⟩
      rw [← hD]
      have HOLD : Hid _ := hold
      have hown1 := own_kept HO.out hb1
      have hbel1 : Below w.heap.size w w1 := hbel.trans (hb1.mono hbel.size)
      have hkeep : ∀ j (h : j < pre.length) (h' : j < l.length), j < k → OwnLd w1 w.heap.size pre[j] l[j] := fun j h h' hj => (HT.out j h h' hj).kept hb1
      have HKEEP : Hid _ := hkeep
      clear hD hold hen hg1 hkeep c0 c1 c2 c3 c4 HONE HS1
      obtain ⟨E0, E1, E2, E3, b', n', cb'⟩ := D
      unfold lcV
      have hf0 := hown1.frozenAt (k * 5)
      have hf1 := hown1.frozenAt (k * 5 + 1)
      have hf2 := hown1.frozenAt (k * 5 + 2)
      have hf3 := hown1.frozenAt (k * 5 + 3)
      have hf4 := hown1.frozenAt (k * 5 + 4)
      obtain ⟨u0, hu0⟩ : ∃ u0, w1.cell? ⟨w.heap.size, k * 5, none⟩ = some u0 := by
        rw [hown1.cellAt (k * 5) (by omega)]
        exact ⟨_, (cellsLc_at pre k (by rw [HL.out]; exact hlt)).1⟩
      obtain ⟨u1, hu1⟩ : ∃ u1, w1.cell? ⟨w.heap.size, k * 5 + 1, none⟩ = some u1 := by
        rw [hown1.cellAt (k * 5 + 1) (by omega)]
        exact ⟨_, (cellsLc_at pre k (by rw [HL.out]; exact hlt)).2.1⟩
      obtain ⟨u2, hu2⟩ : ∃ u2, w1.cell? ⟨w.heap.size, k * 5 + 2, none⟩ = some u2 := by
        rw [hown1.cellAt (k * 5 + 2) (by omega)]
        exact ⟨_, (cellsLc_at pre k (by rw [HL.out]; exact hlt)).2.2.1⟩
      obtain ⟨u3, hu3⟩ : ∃ u3, w1.cell? ⟨w.heap.size, k * 5 + 3, none⟩ = some u3 := by
        rw [hown1.cellAt (k * 5 + 3) (by omega)]
        exact ⟨_, (cellsLc_at pre k (by rw [HL.out]; exact hlt)).2.2.2.1⟩
      obtain ⟨u4, hu4⟩ : ∃ u4, w1.cell? ⟨w.heap.size, k * 5 + 4, none⟩ = some u4 := by
        rw [hown1.cellAt (k * 5 + 4) (by omega)]
        exact ⟨_, (cellsLc_at pre k (by rw [HL.out]; exact hlt)).2.2.2.2⟩
      have hst := (((((hown1.stored (k * 5) (.int .i64 E0)).1.stored (k * 5 + 1) (.int .i64 E1)).1.stored (k * 5 + 2) (.int .i64 E2)).1.stored (k * 5 + 3) (.int .i64 E3)).1.stored (k * 5 + 4) (.slice b' n' cb'))
      rw [← cellsLc_set pre k ⟨E0, E1, E2, E3, b', n', cb'⟩] at hst
      have HST : Hid (_ ∧ _) := hst
      have HNEW : Hid (∀ j (h : j < (pre.set k ⟨E0, E1, E2, E3, b', n', cb'⟩).length) (h' : j < l.length), j < k + 1 → OwnLd _ w.heap.size (pre.set k ⟨E0, E1, E2, E3, b', n', cb'⟩)[j] l[j]) := fun j h h2 hj => by
        have h1 : j < pre.length := by rw [List.length_set] at h; exact h
        rw [List.getElem_set]
        by_cases e : k = j
        · subst e
          rw [if_pos rfl]
          exact (OwnLd.set (OwnLd.set (OwnLd.set (OwnLd.set (OwnLd.set HOLD.out (k * 5) (.int .i64 E0)) (k * 5 + 1) (.int .i64 E1)) (k * 5 + 2) (.int .i64 E2)) (k * 5 + 3) (.int .i64 E3)) (k * 5 + 4) (.slice b' n' cb'))
        · rw [if_neg e]
          have hj : j < k := by omega
          exact (OwnLd.set ((OwnLd.set ((OwnLd.set ((OwnLd.set ((OwnLd.set (HKEEP.out j h1 h2 hj) (k * 5) (.int .i64 E0))) (k * 5 + 1) (.int .i64 E1))) (k * 5 + 2) (.int .i64 E2))) (k * 5 + 3) (.int .i64 E3))) (k * 5 + 4) (.slice b' n' cb'))
      clear hst hb1 hbel HOLD HKEEP
      go_wp2
      go_roundw
      case rel => exact ⟨k + 1, pre.set k ⟨E0, E1, E2, E3, b', n', cb'⟩, by omega, by go_num, by show _ = _; rw [List.length_set]; exact HL.out, HNEW.out, HST.out.1, (((((hbel1.setCell (Nat.le_refl _) _).setCell (Nat.le_refl _) _).setCell (Nat.le_refl _) _).setCell (Nat.le_refl _) _).setCell (Nat.le_refl _) _)⟩
      case measure => simp [intOf]; omega
    · have hkl : k = l.length := by omega
      subst hkl
      have hk1 : ¬ (l.length : Int) < (l.length : Int) := by omega
      have HE : Hid (LdAt wr (some ⟨w.heap.size, 0, none⟩) w.heap.size 0 pre l) := ⟨cellsLc_own HL.out HO.out, HL.out, fun j h h' => (HT.out j h h' h').one⟩
      go_wp2
      go_ret
      exact ⟨pre, rfl, HE.out, hbel⟩
set_option maxHeartbeats 2000000 in
set_option maxRecDepth 100000 in
theorem eqLdS_same {a b : Option Addr} {g off cap h off' cap' : Nat} (cs ds : List LcL) (l : List LdL) (hlen : l.length ≤ 1048576) (hsm : ∀ r ∈ l, smallLd 1048576 r) (w : World) (hf : LdAt w a g off cs l) (hf' : LdAt w b h off' ds l) :
    Calls Try.prog 28 #[.slice a l.length cap, .slice b l.length cap'] w fun e w' => e = .returned (.bool true) ∧ Below w.heap.size w w' := by
  have HF : Hid (LdAt w a g off cs l) := hf
  have HF' : Hid (LdAt w b h off' ds l) := hf'
  have HS : Hid (∀ r ∈ l, smallLd 1048576 r) := hsm
  clear hf hf' hsm
  go_enter Try.func28, Try.ntmps28
  go_wp2
  go_loopw [5] (fun i wr => ∃ k : Nat, k ≤ l.length ∧ i = .int .i64 (k : Int) ∧ Below w.heap.size w wr)
    (fun i _ => l.length - (intOf i).toNat)
  case atStart => exact ⟨0, Nat.zero_le _, rfl, Below.refl _ _⟩
  case round =>
    obtain ⟨k, hk, rfl, hbel⟩ := hrel
    by_cases hlt : k < l.length
    · have hltc : k < cs.length := by rw [HF.out.2.1]; exact hlt
      have hltd : k < ds.length := by rw [HF'.out.2.1]; exact hlt
      have hcc := (HF.out.1.kept hbel).2 k hltc
      have hdd := (HF'.out.1.kept hbel).2 k hltd
      have hone := (HF.out.2.kept hbel).2 k hltc hlt
      have hone' := (HF'.out.2.kept hbel).2 k hltd hlt
      have ea := HF.out.1.1 (by omega)
      have eb := HF'.out.1.1 (by omega)
      subst ea eb
      have hs := HS.out l[k] (List.getElem_mem _)
      obtain ⟨C, hC⟩ : ∃ C, C = cs[k] := ⟨_, rfl⟩
      obtain ⟨D, hD⟩ : ∃ D, D = ds[k] := ⟨_, rfl⟩
      rw [← hC] at hcc hone
      rw [← hD] at hdd hone'
      have HRUN : Hid (∀ x : Abv wr, Calls Try.prog 59 #[lcV C, lcV D] x.w fun e w' => e = .returned (.bool true) ∧ Below x.w.heap.size x.w w') := fun x => eqLd1_same C D l[k] hs.1 x.w (hone.kept x.b) (hone'.kept x.b)
      clear hC hD hone hone' hltc hltd hs
      obtain ⟨F0, F1, F2, F3, b, n, cb⟩ := C
      obtain ⟨E0, E1, E2, E3, b', n', cb'⟩ := D
      unfold lcV at HRUN
      obtain ⟨c0, c1, c2, c3, c4⟩ := hcc
      obtain ⟨d0, d1, d2, d3, d4⟩ := hdd
      have hk0 : (0 : Int) ≤ (k : Int) := by omega
      have hk1 : (k : Int) < (l.length : Int) := by omega
      go_wp2
      have NE := Abv.ne wr
      have C0 := fun x : Abv wr => x.cell c0
      have C1 := fun x : Abv wr => x.cell c1
      have C2 := fun x : Abv wr => x.cell c2
      have C3 := fun x : Abv wr => x.cell c3
      have C4 := fun x : Abv wr => x.cell c4
      have D0 := fun x : Abv wr => x.cell d0
      have D1 := fun x : Abv wr => x.cell d1
      have D2 := fun x : Abv wr => x.cell d2
      have D3 := fun x : Abv wr => x.cell d3
      have D4 := fun x : Abv wr => x.cell d4
      refine wp_region_above (by kernel_rfl) (by kernel_rfl) ?_
      repeat (go_big_quiet_step (first | (go_at_call 59; exact calls_above (HRUN.out _))))
      refine wpQuiet_nil ?_
      rintro w1 ⟨⟨_, hb1⟩, rfl⟩
      clear NE C0 C1 C2 C3 C4 D0 D1 D2 D3 D4
      go_wp2
      go_roundw
      case rel => exact ⟨k + 1, by omega, by go_num, hbel.trans (hb1.mono hbel.size)⟩
      case measure => simp [intOf]; omega
    · have hk1 : ¬ (k : Int) < (l.length : Int) := by omega
      go_wp2
      go_ret
      exact ⟨rfl, hbel⟩
end Go.Proofs.Ytddmogggdckneaa
