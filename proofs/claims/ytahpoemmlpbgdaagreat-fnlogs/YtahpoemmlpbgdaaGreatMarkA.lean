/- Plain facts: records come back from their frames; of frames that are cut anywhere just the whole ones do; no program is named here. What the walks share: rows that a call owns, regions that draw their order and whose calls lay memory of their own alone, a measure. Plain facts on decimal figures; no program is named here. Texts that a call owns; the law's own marks, walked. -/
import Derived.Test.YtahpoemmlpbgdaaGreatMathB
import Derived.Test.YtahpoemmlpbgdaaGreatSums
import Derived.BigQuiet
import Derived.Deep.RegionWith
import Derived.Deep.QuietTactic
import Derived.Deep.RegionHeld3
import Derived.Deep.RegionLaw
import Derived.Deep.AppendLies
import Derived.Test.YtahpoemmlpbgdaaGreatMathA
namespace Go.Proofs.YtahpoemmlpbgdaaGreat.Words

theorem var_cut : ∀ (f n k acc j : Nat), j < (var n).length → rdF f ((var n).take j) k acc = none
  | 0, _, _, _, _, _ => rfl
  | f + 1, n, k, acc, 0, _ => by simp [rdF]
  | f + 1, n, k, acc, j + 1, h => by
    by_cases hn : n ≤ 127
    · rw [var_small n hn] at h; simp at h
    · rw [var_big n (by omega)] at h ⊢
      have e : (UInt8.ofNat (n % 128 + 128)).toNat = n % 128 + 128 := ofNat_toNat _ (by omega)
      rw [List.take_succ_cons, rdF, e, if_neg (by omega)]
      exact var_cut f (n / 128) (k + 1) _ j (by simpa using h)
theorem rd_cut (n j : Nat) (p : List UInt8) (h : j < (var n).length) : rd (p ++ (var n).take j) p.length = none := by
  unfold rd
  rw [List.drop_left, var_cut 5 n 0 0 j h]; rfl
theorem frame_len (t : List UInt8) : (frame t).length = (var t.length).length + 4 + t.length := by
  simp [frame, Sums.four_len]; omega
theorem frame_split (t r : List UInt8) : frame t ++ r = var t.length ++ (Sums.four (Sums.sumOf t) ++ (t ++ r)) := by simp [frame]
def okRec (t : List UInt8) : Prop := 1 ≤ t.length ∧ t.length ≤ 9000
theorem fr_back {t : List UInt8} (h : okRec t) (p r : List UInt8) : fr (p ++ (frame t ++ r)) p.length = some (t, p.length + (frame t).length) := by
  have hr := rd_back t.length (by have := h.2; omega) p (Sums.four (Sums.sumOf t) ++ (t ++ r))
  rw [← frame_split] at hr
  have hf : fit (p ++ (frame t ++ r)) p.length = some (t.length, p.length + (var t.length).length) := by
    unfold fit
    rw [hr]
    exact if_pos ⟨h.1, h.2, by rw [List.length_append, List.length_append, frame_len]; omega⟩
  have e1 : (p ++ (frame t ++ r)).drop (p.length + (var t.length).length) = Sums.four (Sums.sumOf t) ++ (t ++ r) := by
    rw [frame_split, ← List.append_assoc, List.drop_left' (by simp)]
  have e2 : (p ++ (frame t ++ r)).drop (p.length + (var t.length).length + 4) = t ++ r := by
    rw [← List.drop_drop, e1, List.drop_left' (Sums.four_len _)]
  have e3 : ((p ++ (frame t ++ r)).drop (p.length + (var t.length).length + 4)).take t.length = t := by
    rw [e2, List.take_left]
  have hw := fr_whole hf (by rw [e1, e3, List.take_left' (Sums.four_len _)])
  rw [hw, e3, frame_len]
  congr 2
  omega
theorem fr_cut (t : List UInt8) (ht : t.length ≤ 9000) (p : List UInt8) (j : Nat) (hj : j < (frame t).length) : fr (p ++ (frame t).take j) p.length = none := by
  rw [frame_len] at hj
  by_cases h : j < (var t.length).length
  · have e : (frame t).take j = (var t.length).take j := by
      have := frame_split t []
      rw [List.append_nil] at this
      rw [this, List.take_append_of_le_length (by omega)]
    apply fr_none
    unfold fit
    rw [e, rd_cut _ _ _ h]
  · have e : (frame t).take j = var t.length ++ (Sums.four (Sums.sumOf t) ++ (t ++ [])).take (j - (var t.length).length) := by
      have := frame_split t []
      rw [List.append_nil] at this
      rw [this, List.take_append, List.take_of_length_le (by omega)]
    apply fr_none
    unfold fit
    rw [e, rd_back _ (by omega)]
    refine if_neg fun hc => ?_
    have := hc.2.2
    rw [List.length_append, List.length_append, List.length_take, List.length_append, List.length_append, Sums.four_len] at this
    simp at this
    omega
/-- Frames one behind the other. -/
def frames : List (List UInt8) → List UInt8
  | [] => []
  | t :: ts => frame t ++ frames ts
theorem frames_take : ∀ (ts : List (List UInt8)) (j : Nat), (frames (ts.take j)).length ≤ (frames ts).length
  | [], j => by simp
  | t :: ts, 0 => by simp [frames]
  | t :: ts, j + 1 => by
    have := frames_take ts j
    simp only [List.take_succ_cons, frames, List.length_append]
    omega
theorem fr_end (p : List UInt8) : fr p p.length = none := by
  cases h : fr p p.length with
  | none => rfl
  | some q =>
    obtain ⟨r, e⟩ := q
    have := fr_some h
    omega
/-- Frames that are cut at k: just the whole ones come back. -/
theorem cut_frames : ∀ (ts : List (List UInt8)) (p : List UInt8) (k f : Nat), (∀ t ∈ ts, okRec t) → k ≤ (frames ts).length → k < f →
    ∃ m, m ≤ ts.length ∧ un f (p ++ (frames ts).take k) p.length = ts.take m ∧ stop f (p ++ (frames ts).take k) p.length = p.length + (frames (ts.take m)).length ∧
      (frames (ts.take m)).length ≤ k ∧ (m = ts.length ∨ k < (frames (ts.take (m + 1))).length)
  | [], p, k, f, _, hk, _ => by
    have e : p ++ (frames []).take k = p := by simp [frames]
    rw [e]
    have U := un_end f (fr_end p)
    exact ⟨0, Nat.le_refl _, by rw [U.1]; rfl, by rw [U.2]; rfl, by simp [frames], Or.inl rfl⟩
  | t :: ts, p, k, f, h, hk, hf => by
    have ht := h t List.mem_cons_self
    by_cases hj : k < (frame t).length
    · have e : (frames (t :: ts)).take k = (frame t).take k := by rw [frames, List.take_append_of_le_length (by omega)]
      rw [e]
      have U := un_end f (fr_cut t ht.2 p k hj)
      exact ⟨0, Nat.zero_le _, by rw [U.1]; rfl, by rw [U.2]; rfl, by simp [frames], Or.inr (by simp [frames]; exact hj)⟩
    · obtain ⟨f', rfl⟩ : ∃ f', f = f' + 1 := ⟨f - 1, by omega⟩
      have hpos : 1 ≤ (frame t).length := by rw [frame_len]; omega
      have e : (frames (t :: ts)).take k = frame t ++ (frames ts).take (k - (frame t).length) := by rw [frames, List.take_append, List.take_of_length_le (by omega)]
      rw [e]
      have U := un_more f' (fr_back ht p ((frames ts).take (k - (frame t).length)))
      have e2 : p ++ (frame t ++ (frames ts).take (k - (frame t).length)) = (p ++ frame t) ++ (frames ts).take (k - (frame t).length) := by simp
      have hl : p.length + (frame t).length = (p ++ frame t).length := by simp
      rw [frames, List.length_append] at hk
      obtain ⟨m, h1, h2, h3, h4, h5⟩ := cut_frames ts (p ++ frame t) (k - (frame t).length) f' (fun x hx => h x (List.mem_cons_of_mem _ hx)) (by omega) (by omega)
      refine ⟨m + 1, by simp; omega, ?_, ?_, ?_, ?_⟩
      · rw [U.1, hl, e2, h2, List.take_succ_cons]
      · rw [U.2, hl, e2, h3, List.take_succ_cons, frames, List.length_append, List.length_append]; omega
      · rw [List.take_succ_cons, frames, List.length_append]; omega
      · rcases h5 with h5 | h5
        · exact Or.inl (by simp [h5])
        · right
          rw [List.take_succ_cons, frames, List.length_append]; omega
end Go.Proofs.YtahpoemmlpbgdaaGreat.Words
namespace Go.Proofs.YtahpoemmlpbgdaaGreat
open Go.RowKit

/-- A world that has all of W's memory as it was. -/
structure Abv (W : World) where
  w : World
  b : Below W.heap.size W w
theorem Abv.ne (W : World) : Nonempty (Abv W) := ⟨⟨W, Below.refl _ _⟩⟩
theorem Abv.cell {W : World} {p : Addr} {v : Value} (h : W.cell? p = some v) (x : Abv W) : x.w.cell? p = some v := by
  rw [x.b.cell (p := p) (World.block_lt_of_cell? W _ h)]; exact h
theorem calls_above {P : Program} {f : FuncId} {args : Array Value} {W : World} {v : Value} {x : Abv W} (h : Calls P f args x.w fun e w' => e = .returned v ∧ Below x.w.heap.size x.w w') :
    Calls P f args x.w fun e w'' => e = .returned v ∧ ∃ y : Abv W, w'' = y.w :=
  h.mono fun _ w' ⟨he, hb⟩ => ⟨he, ⟨w', x.b.trans (hb.mono x.b.size)⟩, rfl⟩
theorem calls_above_same {P : Program} {f : FuncId} {args : Array Value} {W : World} {v : Value} {x : Abv W} (h : Calls P f args x.w fun e w' => e = .returned v ∧ x.w = w') :
    Calls P f args x.w fun e w'' => e = .returned v ∧ ∃ y : Abv W, w'' = y.w :=
  h.mono fun _ _ ⟨he, hb⟩ => ⟨he, x, hb.symm⟩
theorem wp_region_above {P : Program} {id : Nat} {Q : Exit → Act → World → Prop} {a : Act} {w : World} {l : List Oper} (hm : P.follows .mixedOrders = true) (hB : Region.lexB .any l.toArray = true)
    (h : wpQuiet P l.toArray (fun w' => ∃ x : Abv w, w' = x.w) (fun a' => ∀ w', (∃ x : Abv w, w' = x.w) → Q .normal a' w') l a) : (Code.region id l.toArray true).wp P Q a w :=
  wp_region_quiet (C := fun w' => ∃ x : Abv w, w' = x.w) hm hB ⟨⟨w.drew, (Below.refl _ _).drew⟩, rfl⟩ (by simpa using h)

theorem own_kept {B : Nat} {e : TypeId} {k : Nat} {v : Value} {n : Nat} {xs : List Value} {w w' : World} (h : w.ownsRow B e k v n xs) (hb : Below w.heap.size w w') : w'.ownsRow B e k v n xs := by
  refine ⟨h.1, ?_⟩
  rcases h.2 with h1 | ⟨g, cap, cur, h2, hg, hh, h3⟩
  · exact .inl h1
  · exact .inr ⟨g, cap, cur, h2, hg, by rw [hb.block g (Array.getElem?_eq_some_iff.1 hh).1]; exact hh, h3⟩
theorem take_set_step {α : Type} {pre l : List α} {k : Nat} {x : α} (hk : k < l.length) (hl : pre.length = l.length) (h : pre.take k = l.take k) (hx : l[k] = x) : (pre.set k x).take (k + 1) = l.take (k + 1) := by
  rw [List.take_succ_eq_append_getElem hk, List.take_succ_eq_append_getElem (by rw [List.length_set]; omega), List.take_set_of_le (Nat.le_refl _), h, hx]
  simp
theorem grown_set (w : World) (g j : Nat) (v : Value) : w.grownBy (w.setCell ⟨g, j, none⟩ v) (some g) :=
  ⟨rfl, rfl, rfl, by simp [World.setCell], fun k _ hk => Below.heap_setCell w ⟨g, j, none⟩ v k (fun e => hk (by simp [e]))⟩
theorem own_set {B : Nat} {e : TypeId} {k : Nat} {v : Value} {n : Nat} {xs : List Value} {w : World} (h : w.ownsRow B e k v n xs) (g j : Nat) (x : Value) (hne : v.ownBlock ≠ some g) : (w.setCell ⟨g, j, none⟩ x).ownsRow B e k v n xs :=
  h.kept (grown_set w g j x) (Or.inr hne)
theorem own_mono {w : World} {base base' : Nat} {t : TypeId} {sz : Nat} {v : Value} {n : Nat} {xs : List Value} (h : w.ownsRow base t sz v n xs) (hb : base' ≤ base) : w.ownsRow base' t sz v n xs := by
  refine ⟨h.1, ?_⟩
  rcases h.2 with h1 | ⟨g, cap, cur, h2, hg, h3⟩
  · exact .inl h1
  · exact .inr ⟨g, cap, cur, h2, Nat.le_trans hb hg, h3⟩
theorem own_below' {w w' : World} {g : Nat} (h : Below w.heap.size w w') : w.grownBy w' (some g) := ⟨h.os, h.tape, h.output, h.size, fun k hk _ => h.block k hk⟩
theorem below_drewN {b : Nat} {w w' : World} (h : Below b w w') : ∀ n, Below b w (w'.drewN n)
  | 0 => h
  | n + 1 => (below_drewN h n).drew
theorem ans_no {R : Bool} {p : Prop} (h : R = true ↔ p) (hp : ¬ p) : R = false := by
  cases R with
  | false => rfl
  | true => exact absurd (h.1 rfl) hp
theorem three_set {W : World} {Z : Nat} {a0 a1 a2 : Value} {t : TypeId} (h : W.heap[Z]? = some (.cells #[a0, a1, a2] t (0, 0))) (v0 v1 v2 : Value) :
    (((W.setCell ⟨Z, 0, none⟩ v0).setCell ⟨Z, 1, none⟩ v1).setCell ⟨Z, 2, none⟩ v2).heap[Z]? = some (.cells #[v0, v1, v2] t (0, 0)) := by
  have h1 := heap_setCell_same W Z 0 _ t v0 h
  have h2 := heap_setCell_same _ Z 1 _ t v1 h1
  have h3 := heap_setCell_same _ Z 2 _ t v2 h2
  simpa using h3
theorem three_cell {W : World} {Z : Nat} {a0 a1 a2 : Value} {t : TypeId} (h : W.heap[Z]? = some (.cells #[a0, a1, a2] t (0, 0))) (v0 v1 v2 : Value) :
    let L := ((W.setCell ⟨Z, 0, none⟩ v0).setCell ⟨Z, 1, none⟩ v1).setCell ⟨Z, 2, none⟩ v2
    L.cell? ⟨Z, 0, none⟩ = some v0 ∧ L.cell? ⟨Z, 1, none⟩ = some v1 ∧ L.cell? ⟨Z, 2, none⟩ = some v2 :=
  have h4 := three_set h v0 v1 v2
  ⟨cell_of_row _ _ 0 _ _ _ h4, cell_of_row _ _ 1 _ _ _ h4, cell_of_row _ _ 2 _ _ _ h4⟩
theorem set_far {W : World} {R Z : Nat} {o : Obj} (h : W.heap[Z]? = some o) (hne : Z ≠ R) (j : Nat) (v : Value) : (W.setCell ⟨R, j, none⟩ v).heap[Z]? = some o := (Below.heap_setCell W ⟨R, j, none⟩ v Z (by simpa using hne)).trans h
theorem grown_drew {w w' : World} {row : Option Nat} (h : w.grownBy w' row) : w.grownBy w'.drew row := ⟨h.os, h.tape, h.output, h.size, h.block⟩
theorem grown_below {w w1 w2 : World} {g : Nat} (h : w.grownBy w1 (some g)) (hb : Below w1.heap.size w1 w2) : w.grownBy w2 (some g) := h.trans (own_below' hb)
theorem grown_drewN {w w' : World} {row : Option Nat} (h : w.grownBy w' row) (n : Nat) : w.grownBy (w'.drewN n) row := ⟨h.os, h.tape, h.output, h.size, h.block⟩
theorem grown_keep {w w' : World} {k g : Nat} {o : Obj} (h : w.heap[k]? = some o) (hg : w.grownBy w' (some g)) (hne : k ≠ g) : w'.heap[k]? = some o :=
  (hg.block k (Array.getElem?_eq_some_iff.1 h).1 (fun e => hne (Option.some.inj e))).trans h
theorem grown_alloc {w : World} (o : Obj) (g : Nat) : w.grownBy (w.alloc o) (some g) := own_below' ((Below.refl _ _).alloc (Nat.le_refl _) _)
theorem grown_new {w W : World} {g k : Nat} (h : w.grownBy W (some g)) (hk : w.heap.size ≤ k) (j : Nat) (v : Value) : w.grownBy (W.setCell ⟨k, j, none⟩ v) (some g) := h.andThen (grown_set W k j v) (fun r e => Or.inl (by cases e; exact hk))
theorem own_slice {w : World} {base : Nat} {t : TypeId} {sz : Nat} {v : Value} {n : Nat} {xs : List Value} (h : w.ownsRow base t sz v n xs) : ∃ a c, v = .slice a n c := by
  rcases h.2 with ⟨rfl, rfl⟩ | ⟨g, cap, cur, rfl, _⟩
  · exact ⟨_, _, rfl⟩
  · exact ⟨_, _, rfl⟩
theorem own_not {W : World} {b k n : Nat} {e t : TypeId} {v : Value} {xs : List Value} (h : W.ownsRow b e k v n xs) {q : Nat} {cs : Array Value} {fz : Nat × Nat} (ho : W.heap[q]? = some (.cells cs t fz)) (hne : e ≠ t) : v.ownBlock ≠ some q := by
  intro hq
  rcases h.2 with ⟨h1, _⟩ | ⟨g, cap, cur, h1, _, hh, _⟩
  · rw [h1] at hq; simp [Value.ownBlock] at hq
  · rw [h1] at hq
    obtain rfl : g = q := by simpa [Value.ownBlock] using hq
    rw [ho] at hh; cases hh; exact hne rfl
/-- The call of a Go function by its contract, as one step of a region that draws its order. -/
theorem step_call {P : Program} {ops : Array Oper} {o : Oper} {a : Act} {w : World} {K : Act → World → Prop} {Q : Exit → Act → World → Prop} {E : Prop} (hgd : o.guard = none) (f : Nat) (x : Operand) (t : TypeId)
    (ho : o.op = .call { callee := .value (.func f), args := #[x], argTypes := #[t] }) (v : Value) (hx : a.eval x = v) (u : Value) (R : World → Prop) (hcf : ∀ w, (callFunc f #[v]).run P w = .ok (.enter f #[v]) w)
    (hc : Calls P f #[v] w fun e w' => e = .returned u ∧ R w') (h : ∀ w', R w' → K (a.put o.dst u) w') : if Region.wanted o (yielded ops a.tmps) = true then Oper.wp P o a w K Q else E := by
  have hw : Region.wanted o (yielded ops a.tmps) = true := by simp [Region.wanted, hgd]
  rw [if_pos hw]
  unfold Oper.wp
  have hf : a.eval (.func f) = .func (.func f) #[] #[] := rfl
  simp [execOp, ho, resolve, invoke, hf, hx, hcf, Deferred.ofValue, Oper.upon]
  refine hc.mono ?_
  rintro e w' ⟨rfl, hr⟩
  exact h w' hr
theorem grown_keep' {w w' : World} {k : Nat} {o : Obj} {r : Option Nat} (h : w.heap[k]? = some o) (hg : w.grownBy w' r) (hne : r ≠ some k) : w'.heap[k]? = some o :=
  (hg.block k (Array.getElem?_eq_some_iff.1 h).1 (fun e => hne e.symm)).trans h
end Go.Proofs.YtahpoemmlpbgdaaGreat
namespace Go.Proofs.YtahpoemmlpbgdaaGreat
section
namespace Words
def digF : Nat → Nat → List UInt8
  | 0, _ => []
  | f + 1, m => if m = 0 then [] else digF f (m / 10) ++ [fig (m % 10)]
def dig (m : Nat) : List UInt8 := digF m m
end Words
end
section
open Go.RowKit

def cellsS (ps : List (List UInt8)) : List Value := ps.map fun p => .string ⟨p.toArray⟩
theorem cellsS_app (l m : List (List UInt8)) : cellsS (l ++ m) = cellsS l ++ cellsS m := by simp [cellsS]
theorem Tryz.info9 : (Tryz.prog.info? 9).map (fun i => (i.zero, i.size, i.bytes)) = some (some (.string ⟨#[]⟩), 1, 16) := by kernel_rfl
def mark (k : Nat) : List UInt8 := 109 :: Words.dig k
def mk (k : Nat) : ByteArray := ⟨(mark k).toArray⟩
end
end Go.Proofs.YtahpoemmlpbgdaaGreat
