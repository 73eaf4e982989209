/- DrawRightDisk, walked: a right disk and raw writes that go through on it. -/
import Derived.Test.YtpkkejpidlkmnaaDraw3
import Derived.Test.YtpkkejpidlkmnaaRaws
import Derived.Test.YtpkkejpidlkmnaaMathTab
import Derived.Deep.RegionWith
namespace Go.Proofs.Ytpkkejpidlkmnaa
open Go.RowKit
set_option linter.unusedVariables false
/-- What the first half of the draw holds: the cursor, the result's block, the disk drawn so far. -/
structure DSt (B g len cap b off : Nat) (a : Option Addr) (z : Nat → Int) (w : World) (db : Nat) (D : Value) (l : List FileL) (W : World) : Prop where
  cur : Cur B W g a len cap b off z
  res : W.heap[w.heap.size]? = some (.cells #[.slice none 0 0] 34 (0, 0))
  d : W.heap[db]? = some (.cells #[D] 34 (0, 0))
  own : W.ownsRow (db + 1) 68 2 D l.length (cellsF l)
  below : Below w.heap.size w W
  up : w.heap.size < g ∧ g < db ∧ B ≤ w.heap.size
theorem Cur.step2 {B g len cap b off : Nat} {a : Option Addr} {z : Nat → Int} {W W' : World} (hc : Cur B W g a len cap b off z) (hB : B ≤ W.heap.size) (hb7 : Below W.heap.size W W') : Cur B W' g a len cap b off z := by
  have hgl := hc.lt
  obtain ⟨hB, hb, hlen, hcode, i, h, hi, hblk⟩ := hc
  exact ⟨hB, hb, hlen, fun j hj => ⟨(hcode j hj).1, (hb7.cell (p := ⟨b, off + j, none⟩) (by have := hb (by omega); simp only; omega)).trans (hcode j hj).2.1, (hcode j hj).2.2⟩, i, h, hi, (hb7.block _ hgl).trans hblk⟩
theorem DSt.dlt {B g len cap b off : Nat} {a : Option Addr} {z : Nat → Int} {w : World} {db : Nat} {D : Value} {l : List FileL} {W : World} (h : DSt B g len cap b off a z w db D l W) : db < W.heap.size := (Array.getElem?_eq_some_iff.1 h.d).1
theorem DSt.dcell {B g len cap b off : Nat} {a : Option Addr} {z : Nat → Int} {w : World} {db : Nat} {D : Value} {l : List FileL} {W : World} (h : DSt B g len cap b off a z w db D l W) : W.cell? ⟨db, 0, none⟩ = some D := cell_of_row _ _ 0 _ _ _ h.d
theorem DSt.dfroz {B g len cap b off : Nat} {a : Option Addr} {z : Nat → Int} {w : World} {db : Nat} {D : Value} {l : List FileL} {W : World} (h : DSt B g len cap b off a z w db D l W) : W.frozen? ⟨db, 0, none⟩ = false := frozen_of_row _ _ _ _ _ h.d
theorem DSt.drew {B g len cap b off : Nat} {a : Option Addr} {z : Nat → Int} {w : World} {db : Nat} {D : Value} {l : List FileL} {W : World} (h : DSt B g len cap b off a z w db D l W) : DSt B g len cap b off a z w db D l W.drew := ⟨h.cur, h.res, h.d, h.own, h.below.drew, h.up⟩
theorem DSt.draw {B g len cap b off : Nat} {a : Option Addr} {z : Nat → Int} {w : World} {db : Nat} {D : Value} {l : List FileL} {W W' : World} (h : DSt B g len cap b off a z w db D l W) (hg : W.grownBy W' (some g)) (hc : Cur B W' g a len cap b off z) : DSt B g len cap b off a z w db D l W' := by
  have hu := h.up
  have hl := h.dlt
  refine ⟨hc, (hg.block _ (by omega) (by intro e; have := Option.some.inj e; omega)).trans h.res, (hg.block _ hl (by intro e; have := Option.some.inj e; omega)).trans h.d, h.own.kept hg ?_, h.below.grown hg h.below.size (fun k hk => by cases hk; omega), hu⟩
  cases e : D.ownBlock with
  | none => exact Or.inl rfl
  | some r => exact Or.inr (fun e2 => by have := (h.own.lt r e).1; have := Option.some.inj e2; omega)
theorem DSt.call {B g len cap b off : Nat} {a : Option Addr} {z : Nat → Int} {w : World} {db : Nat} {D : Value} {l : List FileL} {W W' : World} (h : DSt B g len cap b off a z w db D l W) (hb : Below W.heap.size W W') : DSt B g len cap b off a z w db D l W' := by
  have hu := h.up
  have hl := h.dlt
  exact ⟨h.cur.step2 (by omega) hb, (hb.block _ (by omega)).trans h.res, (hb.block _ hl).trans h.d, own_kept h.own hb, h.below.trans (hb.mono h.below.size), hu⟩
theorem DSt.files {B g len cap b off : Nat} {a va : Option Addr} {z : Nat → Int} {w : World} {db vc : Nat} {l : List FileL} {W : World} (h : DSt B g len cap b off a z w db (.slice va l.length vc) l W) : ∃ gF, FilesAt W va gF 0 l := by
  obtain ⟨a', g', c', e, hf⟩ := own_filesAt h.own
  have e1 : va = a' := by simpa using congrArg (fun v => match v with | Value.slice x _ _ => x | _ => none) e
  subst e1
  exact ⟨g', hf⟩
/-- The disk is set to a new one. -/
theorem DSt.set {B g len cap b off : Nat} {a : Option Addr} {z : Nat → Int} {w : World} {db : Nat} {D : Value} {l : List FileL} {W W' : World} (h : DSt B g len cap b off a z w db D l W) (hb : Below W.heap.size W W') {v : Value} {l' : List FileL} (hv : W'.ownsRow W.heap.size 68 2 v l'.length (cellsF l')) :
    DSt B g len cap b off a z w db v l' (W'.setCell ⟨db, 0, none⟩ v) := by
  have h2 := h.call hb
  have hu := h.up
  have hl := h.dlt
  refine ⟨h2.cur.setNew hu.2.1 0 v, set_far h2.res (by omega) 0 v, ?_, own_mono (own_set hv db 0 v ?_) hl, h2.below.setCell (show w.heap.size ≤ db by omega) _, hu⟩
  · have := heap_setCell_same W' db 0 _ 34 v h2.d; simpa using this
  · intro e; have := (hv.lt db e).1; omega

theorem own_blk {W : World} {b k n : Nat} {e : TypeId} {v : Value} {xs : List Value} (h : W.ownsRow b e k v n xs) {q : Nat} (hq : v.ownBlock = some q) : ∃ cur, W.heap[q]? = some (.cells cur e (0, 0)) := by
  rcases h.2 with ⟨h1, _⟩ | ⟨g, cap, cur, h1, _, h3, _⟩
  · rw [h1] at hq; simp [Value.ownBlock] at hq
  · rw [h1] at hq; simp [Value.ownBlock] at hq; subst hq; exact ⟨cur, h3⟩
theorem own_not {W : World} {b k n : Nat} {e t : TypeId} {v : Value} {xs : List Value} (h : W.ownsRow b e k v n xs) {q : Nat} {cs : Array Value} {fz : Nat × Nat} (ho : W.heap[q]? = some (.cells cs t fz)) (hne : e ≠ t) : v.ownBlock ≠ some q := by
  intro hq
  obtain ⟨cur, h2⟩ := own_blk h hq
  rw [ho] at h2
  cases h2
  exact hne rfl
theorem own_apart {W : World} {b b' k k' n n' : Nat} {e e' : TypeId} {v u : Value} {xs ys : List Value} (h : W.ownsRow b e k v n xs) (h' : W.ownsRow b' e' k' u n' ys) (hne : e ≠ e') : v.ownBlock = none ∨ v.ownBlock ≠ u.ownBlock := by
  cases hq : v.ownBlock with
  | none => exact Or.inl rfl
  | some q =>
    refine Or.inr fun e2 => ?_
    obtain ⟨cur, h2⟩ := own_blk h' e2.symm
    exact own_not h h2 hne hq
/-- What the second half holds: the cursor, the result's block, the disk, the disk now, the raw writes. -/
structure DSt2 (B g len cap b off : Nat) (a : Option Addr) (z : Nat → Int) (w : World) (db nb : Nat) (D : Value) (l : List FileL) (V : Value) (m : List FileL) (u : Value) (rs : List Disks.RawL) (W : World) : Prop where
  cur : Cur B W g a len cap b off z
  res : W.heap[w.heap.size]? = some (.cells #[.slice none 0 0] 34 (0, 0))
  d : W.heap[db]? = some (.cells #[D] 34 (0, 0))
  now : W.heap[nb]? = some (.cells #[V] 34 (0, 0))
  ownD : W.ownsRow w.heap.size 68 2 D l.length (cellsF l)
  ownV : W.ownsRow w.heap.size 68 2 V m.length (cellsF m)
  ownU : W.ownsRow w.heap.size 45 4 u rs.length (cellsRaw rs)
  below : Below w.heap.size w W
  up : w.heap.size < g ∧ g < db ∧ db < nb ∧ B ≤ w.heap.size
section
variable {B g len cap b off : Nat} {a : Option Addr} {z : Nat → Int} {w : World} {db nb : Nat} {D : Value} {l : List FileL} {V : Value} {m : List FileL} {u : Value} {rs : List Disks.RawL} {W W' : World}
theorem Cur.blk (h : Cur B W g a len cap b off z) : ∃ cs, W.heap[g]? = some (.cells cs 111 (0, 0)) := by
  obtain ⟨_, _, _, _, _, _, _, hblk⟩ := h
  exact ⟨_, hblk⟩
theorem DSt2.nlt (h : DSt2 B g len cap b off a z w db nb D l V m u rs W) : nb < W.heap.size := (Array.getElem?_eq_some_iff.1 h.now).1
theorem DSt2.ncell (h : DSt2 B g len cap b off a z w db nb D l V m u rs W) : W.cell? ⟨nb, 0, none⟩ = some V := cell_of_row _ _ 0 _ _ _ h.now
theorem DSt2.nfroz (h : DSt2 B g len cap b off a z w db nb D l V m u rs W) : W.frozen? ⟨nb, 0, none⟩ = false := frozen_of_row _ _ _ _ _ h.now
theorem DSt2.dcell (h : DSt2 B g len cap b off a z w db nb D l V m u rs W) : W.cell? ⟨db, 0, none⟩ = some D := cell_of_row _ _ 0 _ _ _ h.d
theorem DSt2.rcell (h : DSt2 B g len cap b off a z w db nb D l V m u rs W) : W.cell? ⟨w.heap.size, 0, none⟩ = some (.slice none 0 0) := cell_of_row _ _ 0 _ _ _ h.res
theorem DSt2.rfroz (h : DSt2 B g len cap b off a z w db nb D l V m u rs W) : W.frozen? ⟨w.heap.size, 0, none⟩ = false := frozen_of_row _ _ _ _ _ h.res
theorem DSt2.drew (h : DSt2 B g len cap b off a z w db nb D l V m u rs W) : DSt2 B g len cap b off a z w db nb D l V m u rs W.drew := ⟨h.cur, h.res, h.d, h.now, h.ownD, h.ownV, h.ownU, h.below.drew, h.up⟩
theorem DSt2.draw (h : DSt2 B g len cap b off a z w db nb D l V m u rs W) (hg : W.grownBy W' (some g)) (hc : Cur B W' g a len cap b off z) : DSt2 B g len cap b off a z w db nb D l V m u rs W' := by
  have hu := h.up
  have hl := h.nlt
  obtain ⟨cs, hb⟩ := h.cur.blk
  exact ⟨hc, (hg.block _ (by omega) (by intro e; have := Option.some.inj e; omega)).trans h.res, (hg.block _ (by omega) (by intro e; have := Option.some.inj e; omega)).trans h.d, (hg.block _ hl (by intro e; have := Option.some.inj e; omega)).trans h.now,
    h.ownD.kept hg (Or.inr (own_not h.ownD hb (by decide))), h.ownV.kept hg (Or.inr (own_not h.ownV hb (by decide))), h.ownU.kept hg (Or.inr (own_not h.ownU hb (by decide))), h.below.grown hg h.below.size (fun k hk => by cases hk; omega), hu⟩
theorem DSt2.call (h : DSt2 B g len cap b off a z w db nb D l V m u rs W) (hb : Below W.heap.size W W') : DSt2 B g len cap b off a z w db nb D l V m u rs W' := by
  have hu := h.up
  have hl := h.nlt
  exact ⟨h.cur.step2 (by omega) hb, (hb.block _ (by omega)).trans h.res, (hb.block _ (by omega)).trans h.d, (hb.block _ hl).trans h.now, own_kept h.ownD hb, own_kept h.ownV hb, own_kept h.ownU hb, h.below.trans (hb.mono h.below.size), hu⟩
theorem DSt2.alloc (h : DSt2 B g len cap b off a z w db nb D l V m u rs W) (o : Obj) : DSt2 B g len cap b off a z w db nb D l V m u rs (W.alloc o) := h.call ((Below.refl _ _).alloc (Nat.le_refl _) _)
/-- A block of other use is set. -/
theorem DSt2.setFar (h : DSt2 B g len cap b off a z w db nb D l V m u rs W) {q j : Nat} {cs : Array Value} (hq : W.heap[q]? = some (.cells cs 34 (0, 0))) (h1 : nb < q) (v : Value) : DSt2 B g len cap b off a z w db nb D l V m u rs (W.setCell ⟨q, j, none⟩ v) := by
  have hu := h.up
  exact ⟨h.cur.setNew (by omega) j v, set_far h.res (by omega) j v, set_far h.d (by omega) j v, set_far h.now (by omega) j v, own_set h.ownD q j v (own_not h.ownD hq (by decide)), own_set h.ownV q j v (own_not h.ownV hq (by decide)), own_set h.ownU q j v (own_not h.ownU hq (by decide)), h.below.setCell (show w.heap.size ≤ q by omega) _, hu⟩
/-- The disk now is set to a new one. -/
theorem DSt2.set (h : DSt2 B g len cap b off a z w db nb D l V m u rs W) {v : Value} {m' : List FileL} (hv : W.ownsRow w.heap.size 68 2 v m'.length (cellsF m')) : DSt2 B g len cap b off a z w db nb D l v m' u rs (W.setCell ⟨nb, 0, none⟩ v) := by
  have hu := h.up
  refine ⟨h.cur.setNew (by omega) 0 v, set_far h.res (by omega) 0 v, set_far h.d (by omega) 0 v, ?_, own_set h.ownD nb 0 v (own_not h.ownD h.now (by decide)), own_set hv nb 0 v (own_not hv h.now (by decide)), own_set h.ownU nb 0 v (own_not h.ownU h.now (by decide)), h.below.setCell (show w.heap.size ≤ nb by omega) _, hu⟩
  have := heap_setCell_same W nb 0 _ 34 v h.now; simpa using this
/-- The list of raw writes has grown. -/
theorem DSt2.more (h : DSt2 B g len cap b off a z w db nb D l V m u rs W) (hg : W.grownBy W' u.ownBlock) {u' : Value} {rs' : List Disks.RawL} (hv : W'.ownsRow w.heap.size 45 4 u' rs'.length (cellsRaw rs')) : DSt2 B g len cap b off a z w db nb D l V m u' rs' W' := by
  have hu := h.up
  have hl := h.nlt
  obtain ⟨cs, hb⟩ := h.cur.blk
  have hgl := h.cur.lt
  refine ⟨h.cur.kept hg (fun r e => Or.inl (by have := (h.ownU.lt r e).1; omega)) (hg.block _ hgl (fun e => own_not h.ownU hb (by decide) e.symm)), (hg.block _ (by omega) (fun e => own_not h.ownU h.res (by decide) e.symm)).trans h.res, (hg.block _ (by omega) (fun e => own_not h.ownU h.d (by decide) e.symm)).trans h.d, (hg.block _ hl (fun e => own_not h.ownU h.now (by decide) e.symm)).trans h.now,
    h.ownD.kept hg ?_, h.ownV.kept hg ?_, hv, h.below.grown hg h.below.size (fun k hk => (h.ownU.lt k hk).1), hu⟩
  · exact own_apart h.ownD h.ownU (by decide)
  · exact own_apart h.ownV h.ownU (by decide)
theorem DSt2.files {va : Option Addr} {vc : Nat} (h : DSt2 B g len cap b off a z w db nb D l (.slice va m.length vc) m u rs W) : ∃ gF, FilesAt W va gF 0 m := by
  obtain ⟨a', g', c', e, hf⟩ := own_filesAt h.ownV
  have e1 : va = a' := by simpa using congrArg (fun v => match v with | Value.slice x _ _ => x | _ => none) e
  subst e1
  exact ⟨g', hf⟩
end

theorem Disks.run_more {r : Disks.RawL} {m' : List FileL} : ∀ {rs : List Disks.RawL} {l m : List FileL}, Disks.run l rs = (m, rs.length) → Disks.putRaw m r = some m' → Disks.run l (rs ++ [r]) = (m', rs.length + 1)
  | [], l, m, h, hp => by
    simp only [Disks.run, Prod.mk.injEq] at h
    rw [h.1, List.nil_append, Disks.run_some hp]; simp [Disks.run]
  | q :: rs, l, m, h, hp => by
    cases e : Disks.putRaw l q with
    | none => rw [Disks.run_none e] at h; simp at h
    | some l' =>
      rw [Disks.run_some e] at h
      simp only [List.length_cons, Prod.mk.injEq, Nat.add_right_cancel_iff] at h
      have ih := Disks.run_more (rs := rs) (l := l') (m := m) (Prod.ext h.1 h.2) hp
      rw [List.cons_append, Disks.run_some e, ih]; simp

def drawPost (w : World) (e : Ending) (w' : World) : Prop :=
  ∃ (v u : Value) (l : List FileL) (rs : List Disks.RawL), e = .returned (.tuple #[.agg #[v], u]) ∧ Disks.ok l ∧ rs.length ≤ 8 ∧ (Disks.run l rs).2 = rs.length ∧ (∀ r ∈ rs, smallRaw 13 r) ∧
    w'.ownsRow w.heap.size 68 2 v l.length (cellsF l) ∧ w'.ownsRow w.heap.size 45 4 u rs.length (cellsRaw rs) ∧ Below w.heap.size w w'
set_option maxHeartbeats 1000000 in
set_option maxRecDepth 100000 in
theorem drawRightDisk_any {B cap len b off : Nat} {a : Option Addr} {z : Nat → Int} (w : World) (hB : B ≤ w.heap.size) (hc : Code B w a len b off z) :
    Calls Try.prog 41 #[.slice a len cap] w (drawPost w) := by
  have HC : Hid (Code B w a len b off z) := hc
  clear hc
  go_enter Try.func41, Try.ntmps41
  go_wp2_with fail
  refine (new_any _ (by simp; omega) (HC.out.below (Below.alloc (Below.refl B w) hB _))).mono ?_
  rintro e w1 ⟨rfl, hc1, hb1⟩
  have hs1 := hb1.size
  simp at hs1
  have hr1 : w1.heap[w.heap.size]? = some (.cells #[.slice none 0 0] 34 (0, 0)) := (hb1.block _ (by simp)).trans (heap_alloc_new w _)
  have HB1 : Hid (Below w.heap.size w w1) := ((Below.refl _ _).alloc (Nat.le_refl _) _).trans (hb1.mono (by simp))
  have HC1 : Hid (Cur B w1 _ a len cap b off z) := hc1
  have HR1 : Hid (w1.heap[w.heap.size]? = _) := hr1
  have hgl : w.heap.size + 1 < w1.heap.size := by have := HC1.out.lt; simpa using this
  have okNil : Disks.ok [] := ⟨by simp, fun j hj => by simp at hj⟩
  have HD1 : Hid (DSt B (w.heap.size + 1) len cap b off a z w w1.heap.size (.slice none ([] : List FileL).length 0) [] (w1.alloc (.cells #[.slice none 0 0] 34))) :=
    ⟨by have := HC1.out.alloc (.cells #[.slice none 0 0] 34); simpa using this, (Below.heap_alloc _ _ _ (by omega)).trans HR1.out, heap_alloc_new w1 _, ⟨rfl, Or.inl ⟨rfl, rfl⟩⟩, HB1.out.alloc HB1.out.size _, ⟨by omega, hgl, hB⟩⟩
  clear hc1 hb1 hr1
  go_wp2

  go_loopw [6] (fun i wr => ∃ (k : Nat) (va : Option Addr) (vc : Nat) (l : List FileL), k ≤ 5 ∧ i = .int .i64 (k : Int) ∧ Disks.ok l ∧ l.length ≤ k ∧ (va = none → vc = 0) ∧ DSt B (w.heap.size + 1) len cap b off a z w w1.heap.size (.slice va l.length vc) l wr)
    (fun i _ => 5 - (intOf i).toNat)
  case atStart => exact ⟨0, none, 0, [], by omega, rfl, okNil, by simp, fun _ => rfl, HD1.out⟩
  case round =>
    obtain ⟨k, va, vc, l, hk, rfl, hok, hlk, hnil, hst⟩ := hrel
    have HS : Hid (DSt B (w.heap.size + 1) len cap b off a z w w1.heap.size (.slice va l.length vc) l wr) := hst
    have HOK : Hid (Disks.ok l) := hok
    have HNIL : Hid (va = none → vc = 0) := hnil
    have HLK : Hid (l.length ≤ k) := hlk
    clear hok hnil hst HD1 hlk
    go_wp2_with fail
    refine (below_any 6 (by omega) _ HS.out.cur).mono ?_
    rintro e w2 ⟨x, rfl, ⟨hx0, _, hx2⟩, hc2, hg2⟩
    have hx3 := hx2 (by omega)
    have HS2 : Hid (DSt B (w.heap.size + 1) len cap b off a z w w1.heap.size (.slice va l.length vc) l w2) := HS.out.draw hg2 hc2
    clear hx2 hc2 hg2 HS
    by_cases hlt : (k : Int) < x
    · have hkx : decide ((k : Int) < x) = true := decide_eq_true hlt
      have hdc := HS2.out.dcell
      go_wp2
      have hl5 : l.length ≤ 5 := by have := HLK.out; omega
      go_region_with (first | (go_at_call 72; refine (name_any _ HS2.out.drew.cur).mono ?_; rintro e wN ⟨N, rfl, hN, hcN, hgN⟩; have hsN := HS2.out.drew.draw hgN hcN; have HN : Hid (_ ∧ _) := hN; have hdN := hsN.dcell; clear hN hcN hgN) | (go_at_call 71; refine (below_any 12 (by omega) _ hsN.cur).mono ?_; rintro e wX ⟨y, rfl, ⟨hy0, _, hy2⟩, hcX, hgX⟩; have hsX := hsN.draw hgX hcX; have hy3 := hy2 (by omega); obtain ⟨m, rfl⟩ := Int.eq_ofNat_of_zero_le hy0; have hdX := hsX.dcell; clear hcX hgX hy2) | (go_at_call 73; refine (text_any m (by omega) _ hsX.cur).mono ?_; rintro e wT ⟨X, rfl, hX, hcT, hgT⟩; have hsT := hsX.draw hgT hcT; have HX : Hid (_ = _) := hX; have hdT := hsT.dcell; clear hX hcT hgT) | (go_at_call 57; obtain ⟨gF, hfF⟩ := hsT.files; refine (l03Put_is l (by omega) N X _ hfF).mono ?_; rintro e wP ⟨v, rfl, hownP, hbP⟩; obtain ⟨av, cv, rfl⟩ := own_slice hownP; have hsP := hsT.call hbP; have hdP := hsP.dcell; have hfP := hsP.dfroz))
      all_goals
        have hsQ := hsT.set hbP hownP
        have hq1 : Disks.ok (Disks.put l (N, X)) := (Disks.put_ok_iff HOK.out _).2 ⟨⟨by have := HN.out; show 1 ≤ N.size; omega, by have := HN.out; show N.size ≤ 12; omega, by have := HX.out; show X.size ≤ 20000; omega⟩, Or.inr (by omega)⟩
        have hq2 : (Disks.put l (N, X)).length ≤ k + 1 := by have := HLK.out; rw [Disks.put_length ((Disks.ok_iff l).1 HOK.out).2.2]; split <;> omega
        have HQ : Hid (_ ∧ _ ∧ _ ∧ _) := ⟨hq1, hq2, own_nil hownP, hsQ⟩
        clear hsQ hq1 hq2 hownP hbP hsP hsT hsX hsN
        go_wp2
        go_roundw
        (case rel => exact ⟨k + 1, av, cv, _, by omega, by go_num, HQ.out.1, HQ.out.2.1, HQ.out.2.2.1, HQ.out.2.2.2⟩)
        (case measure => (simp [intOf]; omega))
    · have hkx : decide ((k : Int) < x) = false := decide_eq_false hlt
      have hdc := HS2.out.dcell
      have hsA := HS2.out.call ((Below.refl _ _).alloc (Nat.le_refl _) (.cells #[] 45))
      have hdA := hsA.dcell
      have HD2 : Hid (DSt2 B (w.heap.size + 1) len cap b off a z w w1.heap.size (w2.heap.size + 1) (.slice va l.length vc) l (.slice va l.length vc) l (.slice (some ⟨w2.heap.size, 0, none⟩) ([] : List Disks.RawL).length 0) [] ((w2.alloc (.cells #[] 45)).alloc (.cells #[.slice va l.length vc] 34))) := by
        have hsB := hsA.call ((Below.refl _ _).alloc (Nat.le_refl _) (.cells #[.slice va l.length vc] 34))
        have hup := hsB.up
        have hdl := HS2.out.dlt
        have h0 : w.heap.size ≤ w1.heap.size + 1 := by omega
        refine ⟨hsB.cur, hsB.res, hsB.d, ?_, own_mono hsB.own h0, own_mono hsB.own h0, own_kept (own_mono (World.ownsRow_made w2 #[] 0 (Nat.le_refl _) (by unfold maxLen; omega) rfl) (by omega)) ((Below.refl _ _).alloc (Nat.le_refl _) _), hsB.below, ⟨hup.1, hup.2.1, by omega, hup.2.2⟩⟩
        have := heap_alloc_new (w2.alloc (.cells #[] 45)) (.cells #[.slice va l.length vc] 34)
        simpa using this
      clear hsA HS2 HLK hdc
      go_wp2
      go_loopw [7, 9] (fun u i wr => ∃ (k : Nat) (na : Option Addr) (nc : Nat) (m : List FileL) (rs : List Disks.RawL), k ≤ 8 ∧ i = .int .i64 (k : Int) ∧ Disks.ok m ∧ (na = none → nc = 0) ∧ rs.length ≤ k ∧ Disks.run l rs = (m, rs.length) ∧ (∀ r ∈ rs, smallRaw 13 r) ∧
          DSt2 B (w.heap.size + 1) len cap b off a z w w1.heap.size (w2.heap.size + 1) (.slice va l.length vc) l (.slice na m.length nc) m u rs wr)
        (fun _ i _ => 8 - (intOf i).toNat)
      case atStart => exact ⟨0, va, vc, l, [], by omega, rfl, HOK.out, HNIL.out, by simp, rfl, by simp, HD2.out⟩
      case round =>
        obtain ⟨k2, na, nc, m, rs, hk2, rfl, hmok, hmnil, hrk, hrun, hsm, hst⟩ := hrel
        have HT : Hid (Disks.ok m ∧ (na = none → nc = 0) ∧ rs.length ≤ k2 ∧ Disks.run l rs = (m, rs.length) ∧ (∀ r ∈ rs, smallRaw 13 r)) := ⟨hmok, hmnil, hrk, hrun, hsm⟩
        have HS3 : Hid (DSt2 B (w.heap.size + 1) len cap b off a z w w1.heap.size (w2.heap.size + 1) (.slice va l.length vc) l (.slice na m.length nc) m u7 rs wr) := hst
        clear hmok hmnil hrk hrun hsm hst HD2
        go_wp2_with fail
        refine (below_any 9 (by omega) _ HS3.out.cur).mono ?_
        rintro e w3 ⟨x2, rfl, ⟨hx0', _, hx2'⟩, hc3, hg3⟩
        have hx3' := hx2' (by omega)
        have HS4 : Hid (DSt2 B (w.heap.size + 1) len cap b off a z w w1.heap.size (w2.heap.size + 1) (.slice va l.length vc) l (.slice na m.length nc) m u7 rs w3) := HS3.out.draw hg3 hc3
        clear hx2' hc3 hg3 HS3
        by_cases hlt2 : (k2 : Int) < x2
        · have hkx2 : decide ((k2 : Int) < x2) = true := decide_eq_true hlt2
          go_wp2_with fail
          refine (raw_any _ HS4.out.cur).mono ?_
          rintro e w4 ⟨r, rfl, hr, hc4, hg4⟩
          obtain ⟨K, N, O, X⟩ := r
          have HS5 : Hid (DSt2 B (w.heap.size + 1) len cap b off a z w w1.heap.size (w2.heap.size + 1) (.slice va l.length vc) l (.slice na m.length nc) m u7 rs w4) := HS4.out.draw hg4 hc4
          have HR : Hid (smallRaw 13 ⟨K, N, O, X⟩) := hr
          clear hr hc4 hg4 HS4
          have hsA := HS5.out.alloc (.cells #[.int .i64 K, .string N, .string O, .string X] 45)
          have HS6 : Hid (DSt2 B (w.heap.size + 1) len cap b off a z w w1.heap.size (w2.heap.size + 1) (.slice va l.length vc) l (.slice na m.length nc) m u7 rs (w4.alloc (.cells #[.int .i64 K, .string N, .string O, .string X] 45))) := hsA
          have hnc := hsA.ncell
          have hrb := heap_alloc_new w4 (.cells #[.int .i64 K, .string N, .string O, .string X] 45)
          have HRB : Hid (_ = _) := hrb
          clear hsA hrb HS5
          unfold rawV
          go_wp2_with fail
          obtain ⟨gF, hfF⟩ := HS6.out.files
          refine (specPutRaw_is m (by have := HT.out.1.1; omega) (fun f hf => by have := ok_sizes HT.out.1 f hf; omega) ⟨K, N, O, X⟩ HT.out.2.1 (by have h3 := HR.out; have h4 := h3.1; have h5 := h3.2.1; have h6 := h3.2.2; exact ⟨by omega, by omega, by omega⟩) _ hfF).mono ?_
          rintro e w5 ⟨v5, rfl, hown5, hb5⟩
          cases hput : Disks.putRaw m ⟨K, N, O, X⟩ with
          | none =>
            rw [hput] at hown5
            obtain ⟨L, hL⟩ : ∃ L : List FileL, L = [] := ⟨_, rfl⟩
            simp only [Option.getD_none, ← hL] at hown5
            obtain ⟨av, cv, rfl⟩ := own_slice hown5
            have HS8 : Hid (DSt2 B (w.heap.size + 1) len cap b off a z w w1.heap.size (w2.heap.size + 1) (.slice va l.length vc) l (.slice na m.length nc) m u7 rs (w5.alloc (.cells #[.slice av L.length cv] 34))) := (HS6.out.call hb5).alloc (.cells #[.slice av L.length cv] 34)
            clear hown5 hb5 hput hfF hL
            go_wp2
            go_roundw
            case rel => exact ⟨k2 + 1, na, nc, m, rs, by omega, by go_num, HT.out.1, HT.out.2.1, by have := HT.out.2.2.1; omega, HT.out.2.2.2.1, HT.out.2.2.2.2, HS8.out⟩
            case measure => simp [intOf]; omega
          | some L =>
            rw [hput] at hown5
            simp only [Option.getD_some] at hown5
            obtain ⟨av, cv, rfl⟩ := own_slice hown5
            have HVN : Hid (av = none → cv = 0) := own_nil hown5
            have hs8 := (HS6.out.call hb5).alloc (.cells #[.slice av L.length cv] 34)
            have HS9 : Hid (DSt2 B (w.heap.size + 1) len cap b off a z w w1.heap.size (w2.heap.size + 1) (.slice va l.length vc) l (.slice na m.length nc) m u7 rs ((w5.alloc (.cells #[.slice av L.length cv] 34)).alloc (.cells #[.int .i64 K, .string N, .string O, .string X] 45))) := hs8.alloc (.cells #[.int .i64 K, .string N, .string O, .string X] 45)
            have hl4 : w4.heap.size < w5.heap.size := by have := hb5.size; simp at this; omega
            have hrb5 : w5.heap[w4.heap.size]? = some (.cells #[.int .i64 K, .string N, .string O, .string X] 45 (0, 0)) := (hb5.block _ (by simp)).trans HRB.out
            have r0 : w5.cell? ⟨w4.heap.size, 0, none⟩ = some (.int .i64 K) := cell_of_row _ _ 0 _ _ _ hrb5
            have r1 : w5.cell? ⟨w4.heap.size, 1, none⟩ = some (.string N) := cell_of_row _ _ 1 _ _ _ hrb5
            have r2 : w5.cell? ⟨w4.heap.size, 2, none⟩ = some (.string O) := cell_of_row _ _ 2 _ _ _ hrb5
            have r3 : w5.cell? ⟨w4.heap.size, 3, none⟩ = some (.string X) := cell_of_row _ _ 3 _ _ _ hrb5
            have HN6 : Hid (((w5.alloc (.cells #[.slice av L.length cv] 34)).alloc (.cells #[.int .i64 K, .string N, .string O, .string X] 45)).heap[w5.heap.size]? = some (.cells #[.slice av L.length cv] 34 (0, 0))) := (Below.heap_alloc _ _ _ (by simp)).trans (heap_alloc_new w5 _)
            have HO6 : Hid (((w5.alloc (.cells #[.slice av L.length cv] 34)).alloc (.cells #[.int .i64 K, .string N, .string O, .string X] 45)).ownsRow w.heap.size 68 2 (.slice av L.length cv) L.length (cellsF L)) := own_kept (own_mono (own_kept hown5 ((Below.refl _ _).alloc (Nat.le_refl _) _)) HS6.out.below.size) ((Below.refl _ _).alloc (Nat.le_refl _) _)
            have HRA : Hid (RawsAt ((w5.alloc (.cells #[.slice av L.length cv] 34)).alloc (.cells #[.int .i64 K, .string N, .string O, .string X] 45)) (some ⟨w5.heap.size + 1, 0, none⟩) (w5.heap.size + 1) 0 [⟨K, N, O, X⟩]) := by
              have hx := heap_alloc_new (w5.alloc (.cells #[.slice av L.length cv] 34)) (.cells #[.int .i64 K, .string N, .string O, .string X] 45)
              rw [show (w5.alloc (.cells #[.slice av L.length cv] 34)).heap.size = w5.heap.size + 1 from by simp] at hx
              refine ⟨fun _ => rfl, fun j hj => ?_⟩
              have hj0 : j = 0 := by simp at hj; omega
              subst hj0
              exact ⟨cell_of_row _ _ 0 _ _ _ hx, cell_of_row _ _ 1 _ _ _ hx, cell_of_row _ _ 2 _ _ _ hx, cell_of_row _ _ 3 _ _ _ hx⟩
            have hrl : rs.length ≤ 8 := by have := HT.out.2.2.1; omega
            have HBZ : Hid (w.heap.size ≤ ((w5.alloc (.cells #[.slice av L.length cv] 34)).alloc (.cells #[.int .i64 K, .string N, .string O, .string X] 45)).heap.size) := HS9.out.below.size
            have HPUT : Hid (Disks.putRaw m ⟨K, N, O, X⟩ = some L) := hput
            clear hown5 hb5 hs8 hrb5 hfF hput
            go_wp2_with (at_builtin; refine wpList_appendRaw rfl _ _ rfl w.heap.size u7 rs.length (cellsRaw rs) rfl HS9.out.ownU (some ⟨w5.heap.size + 1, 0, none⟩) (w5.heap.size + 1) 0 1 [⟨K, N, O, X⟩] rfl HRA.out (fun h => by cases h) (by simp; omega) HBZ.out ?_)
            intro u8 w8 hown8 hgrow8
            have hn8 := (hgrow8.block _ (by simp; omega) (fun e => own_not HS9.out.ownU HN6.out (by decide) e.symm)).trans HN6.out
            have ho8 := HO6.out.kept hgrow8 (own_apart HO6.out HS9.out.ownU (by decide))
            have hs10 := HS9.out.more hgrow8 (rs' := rs ++ [⟨K, N, O, X⟩]) (by rw [cellsRaw_app, List.length_append]; exact hown8)
            have hx8 : w8.cell? ⟨w5.heap.size, 0, none⟩ = some (.slice av L.length cv) := cell_of_row _ _ 0 _ _ _ hn8
            have hy8 := hs10.ncell
            have hz8 := hs10.nfroz
            have HS11 : Hid (DSt2 B (w.heap.size + 1) len cap b off a z w w1.heap.size (w2.heap.size + 1) (.slice va l.length vc) l (.slice av L.length cv) L u8 (rs ++ [⟨K, N, O, X⟩]) (w8.setCell ⟨w2.heap.size + 1, 0, none⟩ (.slice av L.length cv))) := hs10.set ho8
            clear hown8 hgrow8 hn8 ho8 hs10
            go_wp2
            go_roundw
            case rel =>
              refine ⟨k2 + 1, av, cv, L, rs ++ [⟨K, N, O, X⟩], by omega, by go_num, Disks.put_ok HPUT.out, HVN.out, by have := HT.out.2.2.1; simp; omega, ?_, ?_, HS11.out⟩
              · rw [Disks.run_more HT.out.2.2.2.1 HPUT.out]; simp
              · intro r hr
                rcases List.mem_append.1 hr with h | h
                · exact HT.out.2.2.2.2 r h
                · rw [List.mem_singleton] at h; subst h; exact HR.out
            case measure => simp [intOf]; omega
        · have hkx2 : decide ((k2 : Int) < x2) = false := decide_eq_false hlt2
          have hdc2 := HS4.out.dcell
          have hrc2 := HS4.out.rcell
          have hrf2 := HS4.out.rfroz
          have hres := World.cell?_setCell_same w3 _ (.slice va l.length vc) hrc2
          go_wp2
          refine bodyPost_ret (v := .tuple #[.agg #[.slice va l.length vc], u7]) (by simp [results, Try.results41, go_sem, hres]) rfl ⟨_, _, l, rs, rfl, HOK.out, by have := HT.out.2.2.1; omega, by rw [HT.out.2.2.2.1], HT.out.2.2.2.2, own_set HS4.out.ownD _ 0 _ (own_not HS4.out.ownD HS4.out.res (by decide)), own_set HS4.out.ownU _ 0 _ (own_not HS4.out.ownU HS4.out.res (by decide)), HS4.out.below.setCell (Nat.le_refl _) _⟩
end Go.Proofs.Ytpkkejpidlkmnaa
