/- The law FnMaps, walked. -/
import Derived.Test.YtijopmkcaoefjaaDrawMap
import Derived.Test.YtijopmkcaoefjaaSameMap
import Derived.Test.YtijopmkcaoefjaaDoAny
import Derived.Test.YtijopmkcaoefjaaMapBatch
namespace Go.Proofs.Ytijopmkcaoefjaa
open Go.RowKit
set_option linter.unusedVariables false

namespace Maps
theorem between_ok {m n : List PairL} (hm : ok m) (hn : ok n) (h1 : m.length ≤ 6) (h2 : n.length ≤ 6) : Batches.ok 1 (between m n) := by
  obtain ⟨_, a2, a3⟩ := (ok_iff m).1 hm
  obtain ⟨_, b2, b3⟩ := (ok_iff n).1 hn
  refine (okC_iff 1 _).2 ⟨by omega, Nat.le_trans (between_len m n) (by omega), between_all (P := Batches.changeOk) m n (fun p hp => ?_) (fun p hp => ?_), between_asc m n a3 b3⟩
  · obtain ⟨q1, q2, _⟩ := a2 p hp
    exact ⟨q1, q2, Nat.zero_le _, fun _ => rfl⟩
  · obtain ⟨q1, q2, q3⟩ := b2 p hp
    exact ⟨q1, q2, q3, fun h => by cases h⟩
theorem puts_ok {n : List PairL} (hn : ok n) : Batches.ok 7 (n.map put) := by
  obtain ⟨b1, b2, b3⟩ := (ok_iff n).1 hn
  refine (okC_iff 7 _).2 ⟨by omega, by rw [List.length_map]; exact b1, fun c hc => ?_, put_asc b3⟩
  obtain ⟨p, hp, rfl⟩ := List.mem_map.1 hc
  obtain ⟨q1, q2, q3⟩ := b2 p hp
  exact ⟨q1, q2, q3, fun h => by cases h⟩
theorem ok_nil : ok [] := ⟨Nat.zero_le _, fun j hj => absurd hj (Nat.not_lt_zero _)⟩
theorem smallC {st : Int} {cs : List ChangeL} (h : Batches.ok st cs) : ∀ c ∈ cs, smallChange 2097152 c := fun c hc => by
  obtain ⟨_, h2, h3, _⟩ := ((okC_iff st cs).1 h).2.2.1 c hc
  exact ⟨by omega, by omega⟩
theorem atK_self {n : List PairL} (h : ok n) {k : Nat} (hk : k < n.length) : AtK n n[k].key (k : Int) :=
  Or.inl ⟨k, hk, rfl, rfl, fun i hi e => by
    have := asc_at PairL.key ((ok_iff n).1 h).2.2 hk hi
    rw [e, Batches.lt_irrefl] at this
    cases this⟩
end Maps
set_option maxHeartbeats 400000 in
theorem fnMaps_big {a : Option Addr} {len cap : Nat} (w : World) (h : 1048576 < len) :
    Calls Try.prog 3 #[.slice a len cap] w fun e w' => e = .returned (.bool true) ∧ Below w.heap.size w w' := by
  go_enter Try.func3, Try.ntmps3
  go_wp2_with (go_at_call 9; refine (big_yes a len cap h _).mono ?_; rintro e w1 ⟨rfl, rfl⟩)
  go_ret
  exact ⟨rfl, Below.refl _ _⟩
set_option maxHeartbeats 4000000 in
set_option maxRecDepth 100000 in
theorem fnMaps_any {a : Option Addr} {len cap b off : Nat} {z : Nat → Int} (w : World) (hc : Code w.heap.size w a len b off z) :
    Calls Try.prog 3 #[.slice a len cap] w fun e w' => e = .returned (.bool true) ∧ Below w.heap.size w w' := by
  have hlen := hc.2.1
  have HC : Hid (Code w.heap.size w a len b off z) := hc
  clear hc
  go_enter Try.func3, Try.ntmps3
  go_wp2_with fail
  refine (big_no a len cap hlen w).mono ?_
  rintro e wz ⟨rfl, hwz⟩
  subst hwz
  go_wp2_with fail
  refine (drawMaps_any w HC.out).mono ?_
  rintro e w1 ⟨v, u, m, n, rfl, ho, hu, ⟨hm, hlm⟩, ⟨hn, hln⟩, hb1⟩
  obtain ⟨am, gm, cm, rfl, hAm⟩ := cellsPair_slice ho
  obtain ⟨an, gn, cn, rfl, hAn⟩ := cellsPair_slice hu
  have HM : Hid (Maps.ok m ∧ Maps.ok n) := ⟨hm, hn⟩
  have HSM : Hid ((∀ p ∈ m, smallPair 2097152 p) ∧ (∀ p ∈ n, smallPair 2097152 p)) := ⟨Maps.ok_small ((Maps.ok_iff m).1 hm).2.1, Maps.ok_small ((Maps.ok_iff n).1 hn).2.1⟩
  have HA : Hid (PairAt w1 am gm 0 m ∧ PairAt w1 an gn 0 n) := ⟨hAm, hAn⟩
  have hm2 : m.length ≤ 2097152 := by omega
  have hn2 : n.length ≤ 2097152 := by omega
  clear ho hu hm hn hAm hAn HC
  obtain ⟨C, hC⟩ : ∃ C, C = Maps.between m n := ⟨_, rfl⟩
  have hCl : C.length ≤ m.length + n.length := by rw [hC]; exact Maps.between_len m n
  have HCB : Hid (Batches.ok 1 C) := by rw [hC]; exact Maps.between_ok HM.out.1 HM.out.2 hlm hln
  have HB1 : Hid (BetR m n C true) := Or.inl ⟨HM.out, by rw [← hC]; omega, hC, rfl⟩
  have HD1 : Hid (DoR m 1 C n true) := by
    have e : Maps.doing m C = n := by rw [hC]; exact Maps.between_doing m n ((Maps.ok_iff m).1 HM.out.1).2.2 ((Maps.ok_iff n).1 HM.out.2).2.2
    exact Or.inl ⟨⟨HM.out.1, HCB.out⟩, by rw [e]; exact HM.out.2, e.symm, rfl⟩
  clear hC
  have HB2 : Hid (BetR m m [] true) := by
    have e := Maps.between_self m
    exact Or.inl ⟨⟨HM.out.1, HM.out.1⟩, by rw [e]; exact Nat.zero_le _, e.symm, rfl⟩
  obtain ⟨X, hX⟩ : ∃ X, X = n.map Maps.put := ⟨_, rfl⟩
  have hXl : X.length ≤ 2097152 := by rw [hX, List.length_map]; omega
  have HXB : Hid (Batches.ok 7 X) := by rw [hX]; exact Maps.puts_ok HM.out.2
  have HR3 : Hid (BatR n 7 7 X true) := Or.inl ⟨HM.out.2, by omega, rfl, hX, rfl⟩
  have HD2 : Hid (DoR [] 7 X n true) := by
    have e : Maps.doing [] X = n := by rw [hX]; exact Maps.doing_put n
    exact Or.inl ⟨⟨Maps.ok_nil, HXB.out⟩, by rw [e]; exact HM.out.2, e.symm, rfl⟩
  clear hX
  go_wp2_with fail
  refine (implBetween_any m n hm2 hn2 HSM.out.1 HSM.out.2 C true HB1.out w1 HA.out.1 HA.out.2).mono ?_
  rintro e w2 ⟨v2, rfl, ho2, hb2⟩
  obtain ⟨a2, g2, c2, rfl, hA2⟩ := cellsChange_slice ho2
  have HC2 : Hid (ChangeAt w2 a2 g2 0 C) := hA2
  have HBB2 : Hid (Below w1.heap.size w1 w2) := hb2
  clear ho2 hA2 hb2
  have hC2 : C.length ≤ 2097152 := by omega
  go_wp2_with fail
  refine (implDo_at m hm2 HSM.out.1 1 C hC2 (Maps.smallC HCB.out) n true HD1.out w2 (HA.out.1.kept HBB2.out) HC2.out).mono ?_
  rintro e w3 ⟨v3, rfl, ho3, hb3⟩
  obtain ⟨a3, g3, c3, rfl, hA3⟩ := cellsPair_slice ho3
  have HG3 : Hid (PairAt w3 a3 g3 0 n) := hA3
  have HBB3 : Hid (Below w1.heap.size w1 w3) := HBB2.out.trans (hb3.mono HBB2.out.size)
  clear ho3 hA3 hb3 HBB2 HC2
  go_wp2_with fail
  refine (implBetween_any m m hm2 hm2 HSM.out.1 HSM.out.1 [] true HB2.out w3 (HA.out.1.kept HBB3.out) (HA.out.1.kept HBB3.out)).mono ?_
  rintro e w4 ⟨v4, rfl, ho4, hb4⟩
  obtain ⟨a4, c4, rfl⟩ := own_slice ho4
  have HG4 : Hid (PairAt w4 a3 g3 0 n) := HG3.out.kept hb4
  have HBB4 : Hid (Below w1.heap.size w1 w4) := HBB3.out.trans (hb4.mono HBB3.out.size)
  clear ho4 hb4 HBB3 HG3
  go_wp2_with fail
  refine (implBatch_any n hn2 HSM.out.2 7 7 X true HR3.out w4 (HA.out.2.kept HBB4.out)).mono ?_
  rintro e w5 ⟨v5, rfl, ho5, hb5⟩
  obtain ⟨a5, g5, c5, rfl, hA5⟩ := cellsChange_slice ho5
  obtain ⟨W5, hW5⟩ : ∃ W5, W5 = w5.alloc (Obj.cells #[Value.int IntKind.i64 7, Value.slice a5 X.length c5] 33) := ⟨_, rfl⟩
  have hb6 : Below w5.heap.size w5 W5 := by rw [hW5]; exact (Below.refl _ _).alloc (Nat.le_refl _) _
  have hq : W5.heap[w5.heap.size]? = some (Obj.cells #[Value.int IntKind.i64 7, Value.slice a5 X.length c5] 33 (0, 0)) := by rw [hW5]; exact heap_alloc_new w5 _
  have hb7 : Below W5.heap.size W5 (W5.alloc (Obj.cells #[] 40)) := (Below.refl _ _).alloc (Nat.le_refl _) _
  have HX7 : Hid (ChangeAt (W5.alloc (Obj.cells #[] 40)) a5 g5 0 X) := (ChangeAt.kept hA5 hb6).kept hb7
  have HG7 : Hid (PairAt (W5.alloc (Obj.cells #[] 40)) a3 g3 0 n) := ((HG4.out.kept hb5).kept hb6).kept hb7
  have HBB7 : Hid (Below w1.heap.size w1 (W5.alloc (Obj.cells #[] 40))) := by
    have h1 := HBB4.out.trans (hb5.mono HBB4.out.size)
    have h2 := h1.trans (hb6.mono h1.size)
    exact h2.trans (hb7.mono h2.size)
  have HQ7 : Hid ((W5.alloc (Obj.cells #[] 40)).heap[w5.heap.size]? = some (Obj.cells #[Value.int IntKind.i64 7, Value.slice a5 X.length c5] 33 (0, 0))) := (hb7.block _ (Array.getElem?_eq_some_iff.1 hq).1).trans hq
  have HW : Hid (W5.alloc (Obj.cells #[] 40) = (w5.alloc (Obj.cells #[Value.int IntKind.i64 7, Value.slice a5 X.length c5] 33)).alloc (Obj.cells #[] 40)) := by rw [hW5]; rfl
  clear ho5 hA5 hb5 hb6 hb7 hq hW5 HG4 HBB4
  go_wp2_with fail
  rw [← HW.out]
  clear HW
  obtain ⟨W7, hW7⟩ : ∃ W7, W7 = W5.alloc (Obj.cells #[] 40) := ⟨_, rfl⟩
  rw [← hW7] at HX7 HG7 HBB7 HQ7 ⊢
  clear hW7
  obtain ⟨bx, hbx⟩ : ∃ bx, bx = w5.heap.size := ⟨_, rfl⟩
  rw [← hbx] at HQ7 ⊢
  clear hbx
  have HN : Hid (PairAt W7 (some ⟨bx + 1, 0, none⟩) (bx + 1) 0 []) := ⟨fun h => absurd h (Nat.not_lt_zero _), fun j hj => absurd hj (Nat.not_lt_zero _)⟩
  refine (implDo_at (aA := some ⟨bx + 1, 0, none⟩) (capA := 0) [] (Nat.zero_le _) (fun c h => absurd h List.not_mem_nil) 7 X hXl (Maps.smallC HXB.out) n true HD2.out W7 HN.out HX7.out).mono ?_
  rintro e w8 ⟨v8, rfl, ho8, hb8⟩
  obtain ⟨a8, g8, c8, rfl, hA8⟩ := cellsPair_slice ho8
  have HY8 : Hid (PairAt w8 a8 g8 0 n) := hA8
  have HG8 : Hid (PairAt w8 a3 g3 0 n) := HG7.out.kept hb8
  have HBB8 : Hid (Below w1.heap.size w1 w8) := HBB7.out.trans (hb8.mono HBB7.out.size)
  have HQ8 : Hid (w8.heap[bx]? = some (Obj.cells #[Value.int IntKind.i64 7, Value.slice a5 X.length c5] 33 (0, 0))) := (hb8.block _ (Array.getElem?_eq_some_iff.1 HQ7.out).1).trans HQ7.out
  clear ho8 hA8 hb8 HN HX7 HG7 HBB7 HQ7
  go_wp2_with fail
  refine (sameMap_yes n (by omega) w8 HG8.out (HA.out.2.kept HBB8.out)).mono ?_
  rintro e w9 ⟨rfl, hb9⟩
  have HY9 : Hid (PairAt w9 a8 g8 0 n) := HY8.out.kept hb9
  have HG9 : Hid (PairAt w9 a3 g3 0 n) := HG8.out.kept hb9
  have HBB9 : Hid (Below w1.heap.size w1 w9) := HBB8.out.trans (hb9.mono HBB8.out.size)
  have HQ9 : Hid (w9.heap[bx]? = some (Obj.cells #[Value.int IntKind.i64 7, Value.slice a5 X.length c5] 33 (0, 0))) := (hb9.block _ (Array.getElem?_eq_some_iff.1 HQ8.out).1).trans HQ8.out
  clear hb9 HY8 HG8 HBB8 HQ8
  go_wp2_with fail
  refine (sameMap_yes n (by omega) w9 HY9.out (HA.out.2.kept HBB9.out)).mono ?_
  rintro e w10 ⟨rfl, hb10⟩
  have HG10 : Hid (PairAt w10 a3 g3 0 n) := HG9.out.kept hb10
  have HBB10 : Hid (Below w1.heap.size w1 w10) := HBB9.out.trans (hb10.mono HBB9.out.size)
  have hq10 := (hb10.block _ (Array.getElem?_eq_some_iff.1 HQ9.out).1).trans HQ9.out
  have q0 : w10.cell? ⟨bx, 0, none⟩ = some (.int .i64 7) := cell_of_row _ _ 0 _ _ _ hq10
  clear hb10 HY9 HG9 HBB9 HQ9 hq10
  go_wp2
  clear q0
  go_loopw [15] (fun i wr => ∃ k : Nat, k ≤ n.length ∧ i = .int .i64 (k : Int) ∧ PairAt wr a3 g3 0 n ∧ Below w1.heap.size w1 wr)
    (fun i _ => n.length - (intOf i).toNat)
  case atStart => exact ⟨0, Nat.zero_le _, rfl, HG10.out, HBB10.out⟩
  case round =>
    obtain ⟨k, hk, rfl, hgot, hbel⟩ := hrel
    have HG : Hid (PairAt wr a3 g3 0 n) := hgot
    have HBB : Hid (Below w1.heap.size w1 wr) := hbel
    clear hgot hbel HG10 HBB10
    by_cases hlt : k < n.length
    · obtain ⟨d0, d1⟩ := (HA.out.2.kept HBB.out).2 k hlt
      have ea := HA.out.2.1 (by omega)
      subst ea
      have hgz : gn < wr.heap.size := World.block_lt_of_cell? wr _ d0
      obtain ⟨K, qK⟩ : ∃ K, K = n[k].key := ⟨_, rfl⟩
      obtain ⟨V, qV⟩ : ∃ V, V = n[k].value := ⟨_, rfl⟩
      have HR : Hid (GetR n K V true) := Or.inl ⟨k, hlt, HM.out.2, by rw [qK]; exact Maps.atK_self HM.out.2 hlt, qV, rfl⟩
      rw [← qK] at d0
      rw [← qV] at d1
      clear qK qV
      have hq := beq_yes (A := V) rfl
      have hk0 : (0 : Int) ≤ (k : Int) := by omega
      have hk1 : (k : Int) < (n.length : Int) := by omega
      simp only [Nat.zero_add] at d0 d1
      have HD1' : Hid (wr.cell? ⟨gn, k * 2 + 1, none⟩ = some (.string V)) := d1
      go_wp2_with fail
      refine (implGet_any n hn2 HSM.out.2 K V true HR.out wr HG.out).mono ?_
      rintro e w11 ⟨rfl, hb11⟩
      have d11 : w11.cell? ⟨gn, k * 2 + 1, none⟩ = some (.string V) := (hb11.cell (p := ⟨gn, k * 2 + 1, none⟩) hgz).trans HD1'.out
      have HG11 : Hid (PairAt w11 a3 g3 0 n) := HG.out.kept hb11
      have HBB11 : Hid (Below w1.heap.size w1 w11) := HBB.out.trans (hb11.mono HBB.out.size)
      clear hb11 d0 d1 HG HBB
      go_wp2
      go_roundw
      case rel => exact ⟨k + 1, by omega, by go_num, HG11.out, HBB11.out⟩
      case measure => simp [intOf]; omega
    · have hk1 : ¬ (k : Int) < (n.length : Int) := by omega
      have hle : (C.length : Int) ≤ (m.length : Int) + (n.length : Int) := by omega
      go_wp2
      go_ret
      exact ⟨by first | rfl | simp [hle], hb1.trans (HBB.out.mono hb1.size)⟩
end Go.Proofs.Ytijopmkcaoefjaa
