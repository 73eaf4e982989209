/- The call of the program's dirOf, walked. -/
import Derived.Test.YtbcfiiilikkkeaaGreatDoorImplScans
import Derived.Test.YtbcfiiilikkkeaaGreatDoorMoreAny
namespace Go.Proofs.YtbcfiiilikkkeaaGreatDoor
open Go.RowKit
open Shelves (textAt segName dirOf stOf lastOf)
set_option linter.unusedVariables false

def accOf (l : List FileL) (segs : List Int) : List SpotL := segs.flatMap fun n => Scan.segSpots n (textAt l n)
theorem acc_dir (l : List FileL) : ∀ (segs : List Int) (d : List SpotL), Dirs.more d (accOf l segs) = dirOf l d segs
  | [], d => rfl
  | n :: r, d => by
    show Dirs.more d (Scan.segSpots n (textAt l n) ++ accOf l r) = _
    rw [Scan.more_app, acc_dir l r]; rfl
theorem acc_snoc (l : List FileL) (xs : List Int) (n : Int) : accOf l (xs ++ [n]) = accOf l xs ++ Scan.segSpots n (textAt l n) := by simp [accOf]
theorem acc_len {l : List FileL} (h : Disks.ok l) : ∀ segs : List Int, (accOf l segs).length ≤ 20000 * segs.length
  | [] => by simp [accOf]
  | n :: r => by
    have ih := acc_len h r
    have h1 := Scan.spots_le n (textAt l n)
    have h2 := Shelves.text_le h n
    have e : accOf l (n :: r) = Scan.segSpots n (textAt l n) ++ accOf l r := rfl
    rw [e, List.length_append, List.length_cons]; omega
theorem acc_key (l : List FileL) (segs : List Int) : ∀ x ∈ accOf l segs, smallSpot 1048576 x := fun x hx => by
  obtain ⟨n, _, h⟩ := List.mem_flatMap.1 hx
  exact Nat.le_trans (Scan.spots_key n _ x h) (by omega)
def DirPost (w : World) (l : List FileL) (segs : List Int) (en : Ending) (w' : World) : Prop :=
  (((∀ n ∈ segs.dropLast, Scan.Full (textAt l n)) ∧ Dirs.ok (dirOf l [] segs)) ∧ ∃ v, en = .returned (.tuple #[v, .nilIface]) ∧ w'.ownsRow w.heap.size 134 4 v (dirOf l [] segs).length (cellsSpot (dirOf l [] segs)) ∧ Below w.heap.size w w') ∨
  (((∃ n ∈ segs.dropLast, ¬ Scan.Full (textAt l n)) ∨ ((∀ n ∈ segs.dropLast, Scan.Full (textAt l n)) ∧ ¬ Dirs.ok (dirOf l [] segs))) ∧ en = .returned (.tuple #[.slice none 0 0, .iface 202 (.agg #[.int .i64 4])]) ∧ Below w.heap.size w w')
structure DS (w : World) (acc : List SpotL) (v : Value) (W : World) : Prop where
  own : W.ownsRow w.heap.size 134 4 v acc.length (cellsSpot acc)
  bel : Below w.heap.size w W
theorem DS.same {w W W' : World} {acc : List SpotL} {v : Value} (h : DS w acc v W) (hb : Below W.heap.size W W') : DS w acc v W' := ⟨own_kept h.own hb, h.bel.trans (hb.mono h.bel.size)⟩
theorem DS.alloc {w W : World} {acc : List SpotL} {v : Value} (h : DS w acc v W) (o : Obj) : DS w acc v (W.alloc o) := h.same ((Below.refl _ _).alloc (Nat.le_refl _) _)
theorem DS.app {w W W' : World} {acc more : List SpotL} {v v' : Value} (h : DS w acc v W) (hg : W.grownBy W' v.ownBlock) (hown : W'.ownsRow w.heap.size 134 4 v' (acc.length + more.length) (cellsSpot acc ++ cellsSpot more)) : DS w (acc ++ more) v' W' :=
  ⟨by rw [cellsSpot_app, List.length_append]; exact hown, h.bel.grown hg h.bel.size (fun k e => (h.own.lt k e).1)⟩
set_option maxHeartbeats 4000000 in
set_option maxRecDepth 100000 in
theorem dirOf_is {a : Option Addr} {cap b tb : Nat} (l : List FileL) (hok : Disks.ok l) (xs : List ScV) (hn : xs.length ≤ 8) (segs : List Int) (hxs : xs.map (fun x => x.seg) = segs) (w : World) (hT : Table w tb l) (hp : Pow w) (hS : Scans b l xs (.slice a xs.length cap) w) :
    Calls Tryz.prog 162 #[.map (some tb), .slice a xs.length cap] w (DirPost w l segs) := by
  have HOK : Hid (Disks.ok l) := hok
  have HT : Hid (Table w tb l) := hT
  have HP : Hid (Pow w) := hp
  have HS : Hid (Scans b l xs (.slice a xs.length cap) w) := hS
  have HXS : Hid (xs.map (fun x => x.seg) = segs) := hxs
  have HSL : Hid (segs.length = xs.length) := by show _ = _; rw [← hxs, List.length_map]
  have HSA : Hid (∀ j (h : j < xs.length) (h2 : j < segs.length), xs[j].seg = segs[j]) := fun j h h2 => by
    have : (xs.map (fun x => x.seg))[j]'(by rw [List.length_map]; exact h) = segs[j] := by simp only [hxs]
    rw [← this, List.getElem_map]
  clear hok hT hp hS hxs
  have HD0 : Hid (DS w (accOf l (segs.take 0)) (.slice none 0 0) w) := ⟨World.ownsRow_nil _ _ _ _, Below.refl _ _⟩
  go_enter Tryz.func162, Tryz.ntmps162
  go_wp2
  go_loopw [6, 13] (fun v i wr => ∃ k : Nat, k ≤ xs.length ∧ i = .int .i64 (k : Int) ∧ Hid (∀ j (h : j < segs.length), j < k → j + 1 < segs.length → Scan.Full (textAt l segs[j])) ∧ Hid (DS w (accOf l (segs.take k)) v wr))
    (fun _ i _ => xs.length - (intOf i).toNat)
  case atStart => exact ⟨0, Nat.zero_le _, rfl, fun j _ q => absurd q (Nat.not_lt_zero _), HD0⟩
  case round =>
    clear HD0
    obtain ⟨k, hk, rfl, HFU, HD⟩ := hrel
    have hal : (accOf l (segs.take k)).length ≤ 160000 := by
      have := acc_len HOK.out (segs.take k)
      rw [List.length_take] at this
      have := HSL.out
      omega
    obtain ⟨va, vc, hv⟩ := own_slice HD.out.own
    subst hv
    by_cases hlt : k < xs.length
    · have hlts : k < segs.length := by have := HSL.out; omega
      obtain ⟨g, ea, c0, c1, c2, c3, c4⟩ := (HS.out.kept HD.out.bel).at hlt
      subst ea
      obtain ⟨X, hX⟩ : ∃ X, X = xs[k] := ⟨_, rfl⟩
      have HXE : Hid (X.seg = segs[k]) := by show _ = _; rw [hX]; exact HSA.out k hlt hlts
      have HSPR : Hid (wr.ownsRow b 134 4 (.slice X.xa (Scan.segSpots X.seg (textAt l X.seg)).length X.xc) (Scan.segSpots X.seg (textAt l X.seg)).length (cellsSpot (Scan.segSpots X.seg (textAt l X.seg)))) := by
        show World.ownsRow _ _ _ _ _ _ _
        rw [hX]; exact (HS.out.kept HD.out.bel).spots _ (List.getElem_mem _)
      rw [← hX] at c0 c1 c2 c3 c4
      clear hX
      obtain ⟨n, xa, xc, ta, tn, tc⟩ := X
      simp only at c0 c1 c2 c3 c4 HSPR HXE
      have HAK : Hid (accOf l (segs.take (k + 1)) = accOf l (segs.take k) ++ Scan.segSpots n (textAt l n)) := by show _ = _; rw [List.take_succ_eq_append_getElem hlts, acc_snoc, HXE.out]
      have hspl : (Scan.segSpots n (textAt l n)).length ≤ 20000 := Nat.le_trans (Scan.spots_le n _) (Shelves.text_le HOK.out n)
      have HEN : Hid ((textAt l n).length = (Disks.textOf l (segName n)).size) := by show _ = _; unfold textAt; rw [Scan.by_len]
      have HLE := Scan.segEnd_le (textAt l n)
      have HLE : Hid (Scan.segEnd (textAt l n) ≤ (textAt l n).length) := HLE
      have HXE : Hid (n = segs[k]) := HXE
      obtain ⟨sp, hsp⟩ : ∃ sp, sp = Scan.segSpots n (textAt l n) := ⟨_, rfl⟩
      obtain ⟨E, hE⟩ : ∃ E, E = Scan.segEnd (textAt l n) := ⟨_, rfl⟩
      obtain ⟨Q, hQ⟩ : ∃ Q, Q = Scan.segStamp (textAt l n) := ⟨_, rfl⟩
      have HEE : Hid (E = Scan.segEnd (textAt l n)) := hE
      rw [← hsp] at c1 HSPR HAK hspl
      rw [← hE] at c4 HLE
      rw [← hQ] at c3
      clear hsp hE hQ
      obtain ⟨W2, hW2⟩ : ∃ W2, W2 = wr.alloc (Obj.cells #[.int .i64 n, .slice xa sp.length xc, .slice ta tn tc, .int .i64 Q, .int .i64 (E : Int)] 213) := ⟨_, rfl⟩
      obtain ⟨b8, hb8⟩ : ∃ b8, b8 = wr.heap.size := ⟨_, rfl⟩
      have HD2 : Hid (DS w (accOf l (segs.take k)) (.slice va (accOf l (segs.take k)).length vc) W2) := by rw [hW2]; exact HD.out.alloc _
      have HR2 : Hid (W2.heap[b8]? = some (.cells #[.int .i64 n, .slice xa sp.length xc, .slice ta tn tc, .int .i64 Q, .int .i64 (E : Int)] 213 (0, 0))) := by rw [hW2, hb8]; exact heap_alloc_new wr _
      have HSP2 : Hid (W2.ownsRow b 134 4 (.slice xa sp.length xc) sp.length (cellsSpot sp)) := by rw [hW2]; exact HSPR.out.alloc _
      clear HSPR HD
      have hk0 : (0 : Int) ≤ (k : Int) := by omega
      have hk1 : (k : Int) < (xs.length : Int) := by omega
      by_cases hl1 : k + 1 < xs.length
      · have hl2 : (k : Int) < (xs.length : Int) - 1 := by omega
        obtain ⟨B, hB⟩ : ∃ B, B = decide (E < (Disks.textOf l (segName n)).size) := ⟨_, rfl⟩
        have HMORE : Hid (Calls Tryz.prog 206 #[.map (some tb), .agg #[.int .i64 n, .slice xa sp.length xc, .slice ta tn tc, .int .i64 Q, .int .i64 (E : Int)]] W2 fun en w' => en = .returned (.bool B) ∧ Below W2.heap.size W2 w') := hasMore_is l HOK.out n xa ta sp.length xc tn tc Q E W2 (HT.out.below HD2.out.bel) (HP.out.below HD2.out.bel) B hB
        have HBE : Hid (B = decide (E < (Disks.textOf l (segName n)).size)) := hB
        clear hB
        have d0 : W2.cell? ⟨b8, 0, none⟩ = some (.int .i64 n) := cell_of_row _ _ 0 _ _ _ HR2.out
        have d1 : W2.cell? ⟨b8, 1, none⟩ = some (.slice xa sp.length xc) := cell_of_row _ _ 1 _ _ _ HR2.out
        have d2 : W2.cell? ⟨b8, 2, none⟩ = some (.slice ta tn tc) := cell_of_row _ _ 2 _ _ _ HR2.out
        have d3 : W2.cell? ⟨b8, 3, none⟩ = some (.int .i64 Q) := cell_of_row _ _ 3 _ _ _ HR2.out
        have d4 : W2.cell? ⟨b8, 4, none⟩ = some (.int .i64 (E : Int)) := cell_of_row _ _ 4 _ _ _ HR2.out
        rw [hW2, hb8] at d0 d1 d2 d3 d4
        go_wp2_with fail
        rw [← hW2, ← hb8]
        clear hW2 hb8 d0 d1 d2 d3 d4 c0 c1 c2 c3 c4
        refine Calls.mono HMORE.out ?_
        rintro en w3 ⟨rfl, hb3⟩
        have HD3 : Hid (DS w (accOf l (segs.take k)) (.slice va (accOf l (segs.take k)).length vc) w3) := HD2.out.same hb3
        have HR3 : Hid (w3.heap[b8]? = some (.cells #[.int .i64 n, .slice xa sp.length xc, .slice ta tn tc, .int .i64 Q, .int .i64 (E : Int)] 213 (0, 0))) := (hb3.block _ (Array.getElem?_eq_some_iff.1 HR2.out).1).trans HR2.out
        have HSP3 : Hid (w3.ownsRow b 134 4 (.slice xa sp.length xc) sp.length (cellsSpot sp)) := own_kept HSP2.out hb3
        clear hb3 HD2 HR2 HSP2 HMORE
        cases B with
        | true =>
          have HPOST : Hid (DirPost w l segs (.returned (.tuple #[.slice none 0 0, .iface 202 (.agg #[.int .i64 4])])) w3) := Or.inr ⟨Or.inl ⟨segs[k], Shelves.mem_init (by have := HSL.out; omega), fun hf => by
            rw [← HXE.out] at hf
            unfold Scan.Full at hf
            have h1 := HBE.out
            have h2 := HEN.out
            have h3 := HEE.out
            simp at h1
            omega⟩, rfl, HD3.out.bel⟩
          go_wp2
          exact bodyPost_ret (v := .tuple #[.slice none 0 0, .iface 202 (.agg #[.int .i64 4])]) (by simp [results, Tryz.results162, go_sem]) rfl HPOST.out
        | false =>
          have HFU9 : Hid (∀ j (h : j < segs.length), j < k + 1 → j + 1 < segs.length → Scan.Full (textAt l segs[j])) := fun j h q1 q2 => by
            by_cases e : j = k
            · subst e
              rw [← HXE.out]
              unfold Scan.Full
              have h1 := HBE.out
              have h2 := HEN.out
              have h3 := HEE.out
              have h4 := HLE.out
              simp at h1
              omega
            · exact HFU.out j h (by omega) q2
          have d1 : w3.cell? ⟨b8, 1, none⟩ = some (.slice xa sp.length xc) := cell_of_row _ _ 1 _ _ _ HR3.out
          obtain ⟨_, g2, _, e2, A2⟩ := cellsSpot_slice HSP3.out
          cases e2
          have hown := HD3.out.own
          have hbz := HD3.out.bel.size
          have hnil2 : xa = none → xc = 0 := by
            intro h
            rcases HSP3.out.2 with ⟨q1, _⟩ | ⟨g, cp, cur, q1, _⟩
            · simp only [Value.slice.injEq] at q1; exact q1.2.2
            · simp only [Value.slice.injEq] at q1; rw [q1.1] at h; cases h

          go_wp2_with (at_builtin; refine wpList_appendSpot rfl _ _ rfl w.heap.size _ _ _ rfl hown xa g2 0 xc sp rfl A2 hnil2 (by omega) hbz ?_)
          intro v9 w9 hown9 hgrow9
          have HD9 : Hid (DS w (accOf l (segs.take (k + 1))) v9 w9) := by
            show DS _ _ _ _
            rw [HAK.out]
            exact DS.app (W := w3) HD3.out hgrow9 hown9
          clear hown9 hgrow9 hown hbz A2 HD3 HSP3
          go_wp2
          go_roundw
          case rel => exact ⟨k + 1, by omega, by go_num, HFU9, HD9⟩
          case measure => simp [intOf]; omega
      · have hl2 : ¬ (k : Int) < (xs.length : Int) - 1 := by omega
        have HFU9 : Hid (∀ j (h : j < segs.length), j < k + 1 → j + 1 < segs.length → Scan.Full (textAt l segs[j])) := fun j h q1 q2 => by
          have := HSL.out
          exact HFU.out j h (by omega) q2
        have d1 : W2.cell? ⟨b8, 1, none⟩ = some (.slice xa sp.length xc) := cell_of_row _ _ 1 _ _ _ HR2.out
        obtain ⟨_, g2, _, e2, A2⟩ := cellsSpot_slice HSP2.out
        cases e2
        have hown := HD2.out.own
        have hbz := HD2.out.bel.size
        have hnil2 : xa = none → xc = 0 := by
          intro h
          rcases HSP2.out.2 with ⟨q1, _⟩ | ⟨g, cp, cur, q1, _⟩
          · simp only [Value.slice.injEq] at q1; exact q1.2.2
          · simp only [Value.slice.injEq] at q1; rw [q1.1] at h; cases h
        rw [hW2] at hown hbz d1 A2 HD2
        rw [hb8] at d1
        clear hW2 hb8 HR2
        go_wp2_with (at_builtin; refine wpList_appendSpot rfl _ _ rfl w.heap.size _ _ _ rfl hown xa g2 0 xc sp rfl A2 hnil2 (by omega) hbz ?_)
        intro v9 w9 hown9 hgrow9
        have HD9 : Hid (DS w (accOf l (segs.take (k + 1))) v9 w9) := by
          show DS _ _ _ _
          rw [HAK.out]
          exact DS.app (W := _) HD2.out hgrow9 hown9
        clear hown9 hgrow9 hown hbz A2 HD2 HSP2
        go_wp2
        go_roundw
        case rel => exact ⟨k + 1, by omega, by go_num, HFU9, HD9⟩
        case measure => simp [intOf]; omega
    · have hk1 : ¬ (k : Int) < (xs.length : Int) := by omega
      have hke : segs.take k = segs := List.take_of_length_le (by have := HSL.out; omega)
      rw [hke] at HD hal
      have HFUL : Hid (∀ n ∈ segs.dropLast, Scan.Full (textAt l n)) := fun n hn => by
        obtain ⟨j, hj, e⟩ := Shelves.init_at hn
        rw [← e]; exact HFU.out j (by omega) (by have := HSL.out; omega) hj
      clear HFU
      obtain ⟨acc, hacc⟩ : ∃ acc, acc = accOf l segs := ⟨_, rfl⟩
      have HACC : Hid (acc = accOf l segs) := hacc
      rw [hke, ← hacc]
      rw [← hacc] at HD hal
      clear hacc hke
      obtain ⟨cs, R, hR⟩ := moreR_ex [] acc
      have HR : Hid (MoreR [] acc cs R) := hR
      clear hR
      obtain ⟨_, g2, _, e2, A2⟩ := cellsSpot_slice HD.out.own
      cases e2
      have HCALL : Hid (Calls Tryz.prog 207 #[.slice none 0 0, .slice va acc.length vc] wr (MorePost wr cs R)) :=
        implMore_any (l := []) (a := none) (g := 0) (off := 0) (cap := 0) HR.out (by simp) (by omega) (fun r hr => (List.not_mem_nil hr).elim) (by rw [HACC.out]; exact acc_key l segs) wr ⟨fun h => absurd h (by simp), fun j hj => absurd hj (by simp)⟩ A2
      go_wp2_with fail
      refine Calls.mono HCALL.out ?_
      rintro en w5 ⟨v5, rfl, ho5, hb5⟩
      have hB5 : Below w.heap.size w w5 := HD.out.bel.trans (hb5.mono HD.out.bel.size)
      have ho5' := own_mono ho5 HD.out.bel.size
      have e1 : Dirs.more [] acc = dirOf l [] segs := by rw [HACC.out]; exact acc_dir l segs []
      have hok0 : Dirs.ok [] := ⟨by simp, fun j hj => absurd hj (Nat.not_lt_zero _)⟩
      cases R with
      | true =>
        have HPOST : Hid (DirPost w l segs (.returned (.tuple #[v5, .nilIface])) w5) := by
          rcases HR.out with ⟨_, h2, h3, _⟩ | ⟨_, _, h⟩
          · rw [e1] at h2 h3
            rw [h3] at ho5'
            exact Or.inl ⟨⟨HFUL.out, h2⟩, v5, rfl, ho5', hB5⟩
          · cases h
        clear ho5 ho5' hb5 hB5 e1 hok0 HCALL A2
        go_wp2
        exact bodyPost_ret (v := .tuple #[v5, .nilIface]) (by simp [results, Tryz.results162, go_sem]) rfl HPOST.out
      | false =>
        have HPOST : Hid (DirPost w l segs (.returned (.tuple #[.slice none 0 0, .iface 202 (.agg #[.int .i64 4])])) w5) := by
          rcases HR.out with ⟨_, _, _, h⟩ | ⟨h, _, _⟩
          · cases h
          · rw [e1] at h
            exact Or.inr ⟨Or.inr ⟨HFUL.out, fun q => h ⟨hok0, q⟩⟩, rfl, hB5⟩
        clear ho5 ho5' hb5 hB5 e1 hok0 HCALL A2
        go_wp2
        exact bodyPost_ret (v := .tuple #[.slice none 0 0, .iface 202 (.agg #[.int .i64 4])]) (by simp [results, Tryz.results162, go_sem]) rfl HPOST.out
end Go.Proofs.YtbcfiiilikkkeaaGreatDoor
