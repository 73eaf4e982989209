/- A raw write; no program is named here. Lists of raw writes in memory, 4 cells each; measured, copied, held against each other, marked. Made by program. The program's isFileOf, framesAdded and LogSteps, walked. -/
import Derived.Test.YtahpoemmlpbgdaaGreatMathB
import Derived.Test.YtahpoemmlpbgdaaGreatMarkA
import Derived.Test.YtahpoemmlpbgdaaGreatLEn
import Derived.Laws.AppendOwnNone
import Derived.Deep.RegionHeld3
import Derived.Deep.DeepCutAuto
import Derived.Test.YtahpoemmlpbgdaaGreatImplSame
namespace Go.Proofs.YtahpoemmlpbgdaaGreat
structure RawL where
  kind : Int
  name : ByteArray
  «to» : ByteArray
  text : ByteArray
end Go.Proofs.YtahpoemmlpbgdaaGreat
namespace Go.Proofs.YtahpoemmlpbgdaaGreat
open Go.RowKit
set_option linter.unusedVariables false
set_option linter.unusedSimpArgs false

/-- A slice at a whose elements are these. -/
def RwAt (w : World) (a : Option Addr) (g off : Nat) (l : List RawL) : Prop :=
  (0 < l.length → a = some ⟨g, off, none⟩) ∧ ∀ j (hj : j < l.length), w.cell? ⟨g, off + j * 4, none⟩ = some (.int .i64 l[j].kind) ∧ w.cell? ⟨g, off + j * 4 + 1, none⟩ = some (.string l[j].name) ∧ w.cell? ⟨g, off + j * 4 + 2, none⟩ = some (.string l[j].to) ∧ w.cell? ⟨g, off + j * 4 + 3, none⟩ = some (.string l[j].text)
def cellsRw (l : List RawL) : List Value := l.flatMap fun r => [.int .i64 r.kind, .string r.name, .string r.to, .string r.text]
theorem cellsRw_at : ∀ (l : List RawL) (j : Nat) (hj : j < l.length), (cellsRw l)[j * 4]? = some (.int .i64 l[j].kind) ∧ (cellsRw l)[j * 4 + 1]? = some (.string l[j].name) ∧ (cellsRw l)[j * 4 + 2]? = some (.string l[j].to) ∧ (cellsRw l)[j * 4 + 3]? = some (.string l[j].text)
  | r :: l, 0, _ => ⟨rfl, rfl, rfl, rfl⟩
  | r :: l, j + 1, hj => by
    have := cellsRw_at l j (by simpa using hj)
    simpa [cellsRw, Nat.add_mul, Nat.add_assoc] using this
theorem cellsRw_own {w : World} {base : Nat} {e : TypeId} {g n cap : Nat} {l : List RawL} (hn : l.length = n) (h : w.ownsRow base e 4 (.slice (some ⟨g, 0, none⟩) n cap) n (cellsRw l)) : RwAt w (some ⟨g, 0, none⟩) g 0 l := by
  refine ⟨fun _ => rfl, fun j hj => ?_⟩
  rw [Nat.zero_add, h.cellAt (j * 4) (by omega), h.cellAt (j * 4 + 1) (by omega), h.cellAt (j * 4 + 2) (by omega), h.cellAt (j * 4 + 3) (by omega)]
  exact cellsRw_at l j hj
theorem cellsRw_slice {w : World} {base : Nat} {v : Value} {l : List RawL} (h : w.ownsRow base 69 4 v l.length (cellsRw l)) : ∃ a g cap, v = .slice a l.length cap ∧ RwAt w a g 0 l := by
  rcases h.2 with ⟨h1, h2⟩ | ⟨g, cap, cur, h1, _⟩
  · exact ⟨none, 0, 0, by rw [h1, h2], fun q => by omega, fun j hj => by omega⟩
  · subst h1; exact ⟨_, g, cap, rfl, cellsRw_own rfl h⟩
theorem Tryz.info69 : (Tryz.prog.info? 69).map (fun i => (i.zero, i.size, i.bytes)) = some (some (.agg #[.int .i64 0, .string ByteArray.empty, .string ByteArray.empty, .string ByteArray.empty]), 4, 56) := by kernel_rfl
end Go.Proofs.YtahpoemmlpbgdaaGreat
namespace Go.Proofs.YtahpoemmlpbgdaaGreat
open Go.RowKit
open Logs (okL recs frames file)
set_option linter.unusedVariables false
set_option linter.unusedSimpArgs false

set_option maxHeartbeats 4000000 in
set_option maxRecDepth 100000 in
theorem isFile_is {a : Option Addr} {g off cap : Nat} (s : ByteArray) (hss : s.size ≤ 1048576) (l lr : LogL) (er : Nat) (Rr : Bool) (hrd : ∀ W : World, Calls Tryz.prog 7 #[.string s] W (RLPost W lr er Rr)) (n1 : l.ents.length ≤ 1048576) (n2 : lr.ents.length ≤ 1048576)
    (F : Bool) (hF : F = true ↔ Rr = true ∧ er = s.size ∧ lr = l) (w : World) (hA : EnAt w a g off l.ents) :
    Calls Tryz.prog 27 #[.string s, logV l a cap] w fun e w' => e = .returned (.bool F) ∧ Below w.heap.size w w' := by
  unfold logV
  obtain ⟨W, hW⟩ : ∃ W, W = w.alloc (Obj.cells #[.int .i64 l.start, .int .i64 l.sterm, .slice a l.ents.length cap] 26) := ⟨_, rfl⟩
  have hb : Below w.heap.size w W := by rw [hW]; exact (Below.refl _ _).alloc (Nat.le_refl _) _
  have hp : W.heap[w.heap.size]? = some (.cells #[.int .i64 l.start, .int .i64 l.sterm, .slice a l.ents.length cap] 26 (0, 0)) := by rw [hW]; exact heap_alloc_new w _
  have HB : Hid (Below w.heap.size w W) := hb
  have HP : Hid (W.heap[w.heap.size]? = some (.cells #[.int .i64 l.start, .int .i64 l.sterm, .slice a l.ents.length cap] 26 (0, 0))) := hp
  have HEN : Hid (EnAt W a g off l.ents) := hA.kept hb
  have HC : Hid (Calls Tryz.prog 7 #[.string s] W fun en w' => ∃ a2 cap2, en = .returned (.tuple #[.agg #[.int .i64 lr.start, .int .i64 lr.sterm, .slice a2 lr.ents.length cap2], .int .i64 (er : Int), .bool Rr]) ∧ w'.ownsRow W.heap.size 51 3 (.slice a2 lr.ents.length cap2) lr.ents.length (cellsEn lr.ents) ∧ Below W.heap.size W w') := hrd W
  have HF : Hid (F = true ↔ Rr = true ∧ er = s.size ∧ lr = l) := hF
  obtain ⟨q, hq⟩ : ∃ q, q = w.heap.size := ⟨_, rfl⟩
  rw [← hq] at HP
  clear hA hb hp hrd hF
  go_enter Tryz.func27, Tryz.ntmps27
  go_wp2_with fail
  rw [← hW, ← hq]
  clear hW hq
  refine Calls.mono HC.out ?_
  rintro en w2 ⟨a2, cap2, rfl, ho2, hb2⟩
  obtain ⟨W3, hW3⟩ : ∃ W3, W3 = w2.alloc (Obj.cells #[.int .i64 lr.start, .int .i64 lr.sterm, .slice a2 lr.ents.length cap2] 26) := ⟨_, rfl⟩
  have hb3 : Below w2.heap.size w2 W3 := by rw [hW3]; exact (Below.refl _ _).alloc (Nat.le_refl _) _
  have hb23 : Below W.heap.size W W3 := hb2.trans (hb3.mono hb2.size)
  have hp3 : W3.heap[w2.heap.size]? = some (.cells #[.int .i64 lr.start, .int .i64 lr.sterm, .slice a2 lr.ents.length cap2] 26 (0, 0)) := by rw [hW3]; exact heap_alloc_new w2 _
  have hl3 := (hb23.block _ (Array.getElem?_eq_some_iff.1 HP.out).1).trans HP.out
  have p0 := cell_of_row _ _ 0 _ _ _ hl3
  have p1 := cell_of_row _ _ 1 _ _ _ hl3
  have p2 := cell_of_row _ _ 2 _ _ _ hl3
  simp at p0 p1 p2
  have HB3 : Hid (Below w.heap.size w W3) := HB.out.trans (hb23.mono HB.out.size)
  have HSM : Hid (∀ Q : Bool, (Q = true ↔ lr = l) → Calls Tryz.prog 28 #[.agg #[.int .i64 lr.start, .int .i64 lr.sterm, .slice a2 lr.ents.length cap2], .agg #[.int .i64 l.start, .int .i64 l.sterm, .slice a l.ents.length cap]] W3 fun e w' => e = .returned (.bool Q) ∧ Below W3.heap.size W3 w') := fun Q hQ => by
    obtain ⟨a3, g3, cap3, e3, h3⟩ := cellsEn_slice (own_kept ho2 hb3)
    simp only [Value.slice.injEq] at e3
    obtain ⟨rfl, _, rfl⟩ := e3
    exact sameLog_is lr l n2 n1 Q hQ W3 h3 (HEN.out.kept hb23)
  rw [hW3] at p0 p1 p2
  clear ho2 hb2 hb3 hb23 hp3 hl3 HC HEN HP
  cases Rr with
  | false =>
    obtain rfl : F = false := ans_no HF.out fun e => by cases e.1
    go_wp2
    go_ret
    exact ⟨rfl, by rw [← hW3]; exact HB3.out⟩
  | true =>
    by_cases hes : er = s.size
    · have h0 : ((er : Int) == (s.size : Int)) = true := by simp; omega
      have HC2 : Hid (Calls Tryz.prog 28 #[.agg #[.int .i64 lr.start, .int .i64 lr.sterm, .slice a2 lr.ents.length cap2], .agg #[.int .i64 l.start, .int .i64 l.sterm, .slice a l.ents.length cap]] W3 fun e w' => e = .returned (.bool F) ∧ Below W3.heap.size W3 w') := HSM.out F ⟨fun h => (HF.out.1 h).2.2, fun h => HF.out.2 ⟨rfl, hes, h⟩⟩
      clear hes HSM HF
      go_wp2_with fail
      rw [← hW3]
      clear hW3 p0 p1 p2
      refine Calls.mono HC2.out ?_
      rintro en w4 ⟨rfl, hb4⟩
      go_wp2
      go_ret
      exact ⟨rfl, HB3.out.trans (hb4.mono HB3.out.size)⟩
    · have h0 : ((er : Int) == (s.size : Int)) = false := by simp; omega
      obtain rfl : F = false := ans_no HF.out fun e => hes e.2.1
      clear hes
      go_wp2
      go_ret
      exact ⟨rfl, by rw [← hW3]; exact HB3.out⟩
/-- The frames that are put behind. -/
def moreB (m : LogL) (k : Nat) : ByteArray := ⟨(frames (recs m.start.toNat k (m.ents.drop k))).toArray⟩
set_option maxHeartbeats 4000000 in
set_option maxRecDepth 100000 in
theorem added_is {a a' : Option Addr} {g g' off off' cap cap' : Nat} (l m : LogL) (n1 : l.ents.length ≤ 1048576) (hok : okL m = true) (hcap : m.ents.length ≤ cap') (k : Nat) (hk : SameN l.ents m.ents k) (w : World) (hA : EnAt w a g off l.ents) (hB : EnAt w a' g' off' m.ents) :
    Calls Tryz.prog 29 #[logV l a cap, logV m a' cap'] w fun e w' => e = .returned (.string (if l.start = m.start ∧ l.sterm = m.sterm then moreB m k else ⟨#[]⟩)) ∧ Below w.heap.size w w' := by
  have n2 : m.ents.length ≤ 1048576 := by have := (Logs.okL_iff.1 hok).1.n; omega
  unfold logV
  obtain ⟨W, hW, hb, hp0, hp1⟩ := two_logs w #[.int .i64 l.start, .int .i64 l.sterm, .slice a l.ents.length cap] #[.int .i64 m.start, .int .i64 m.sterm, .slice a' m.ents.length cap']
  have HB : Hid (Below w.heap.size w W) := hb
  have p0 := cell_of_row _ _ 0 _ _ _ hp0
  have p1 := cell_of_row _ _ 1 _ _ _ hp0
  have p2 := cell_of_row _ _ 2 _ _ _ hp0
  have q0 := cell_of_row _ _ 0 _ _ _ hp1
  have q1 := cell_of_row _ _ 1 _ _ _ hp1
  have q2 := cell_of_row _ _ 2 _ _ _ hp1
  simp at p0 p1 p2 q0 q1 q2
  by_cases k0 : l.start = m.start
  · have h0 : (l.start != m.start) = false := by simp [k0]
    by_cases k1 : l.sterm = m.sterm
    · have h1 : (l.sterm != m.sterm) = false := by simp [k1]
      rw [if_pos ⟨k0, k1⟩]
      obtain ⟨M, hM⟩ : ∃ M, M = moreB m k := ⟨_, rfl⟩
      rw [← hM]
      have HC1 : Hid (∀ X, Below W.heap.size W X → Calls Tryz.prog 65 #[.slice a l.ents.length cap, .slice a' m.ents.length cap'] X fun e w' => e = .returned (.int .i64 (k : Int)) ∧ Below X.heap.size X w') := fun X h => sameBeg_is l.ents m.ents n1 n2 k hk X ((hA.kept hb).kept h) ((hB.kept hb).kept h)
      have HC2 : Hid (∀ X, Below W.heap.size W X → Calls Tryz.prog 23 #[.agg #[.int .i64 m.start, .int .i64 m.sterm, .slice a' m.ents.length cap'], .int .i64 (k : Int)] X fun e w' => e = .returned (.string M) ∧ Below X.heap.size X w') := fun X h => by rw [hM]; exact implFrames_is m hok hcap k hk.2.1 X ((hB.kept hb).kept h)
      obtain ⟨q, hq⟩ : ∃ q, q = w.heap.size := ⟨_, rfl⟩
      rw [← hq] at p0 p1 p2 q0 q1 q2
      have HS : Hid (∀ X, Below W.heap.size W X → (X.cell? ⟨q, 2, none⟩ = some (.slice a l.ents.length cap) ∧ X.cell? ⟨q + 1, 0, none⟩ = some (.int .i64 m.start) ∧ X.cell? ⟨q + 1, 1, none⟩ = some (.int .i64 m.sterm) ∧ X.cell? ⟨q + 1, 2, none⟩ = some (.slice a' m.ents.length cap'))) := fun X h => ⟨(h.cell (p := ⟨q, 2, none⟩) (World.block_lt_of_cell? _ _ p2)).trans p2, (h.cell (p := ⟨q + 1, 0, none⟩) (World.block_lt_of_cell? _ _ q0)).trans q0, (h.cell (p := ⟨q + 1, 1, none⟩) (World.block_lt_of_cell? _ _ q1)).trans q1, (h.cell (p := ⟨q + 1, 2, none⟩) (World.block_lt_of_cell? _ _ q2)).trans q2⟩
      have HK : Hid (∀ X X' : World, Below W.heap.size W X → Below X.heap.size X X' → Below W.heap.size W X') := fun X X' a b => a.trans (b.mono a.size)
      have BD : Below W.heap.size W W.drew := (Below.refl _ _).drew
      clear hA hB hp0 hp1 k0 k1 hM hb hk
      rw [hW, hq] at p0 p1 p2 q0 q1 q2
      go_enter Tryz.func29, Tryz.ntmps29
      go_wp2_with fail
      rw [← hW, ← hq]
      clear hW hq p0 p1 p2 q0 q1 q2
      go_region_held (fun w' => (w'.cell? ⟨q, 2, none⟩ = some (.slice a l.ents.length cap) ∧ w'.cell? ⟨q + 1, 0, none⟩ = some (.int .i64 m.start) ∧ w'.cell? ⟨q + 1, 1, none⟩ = some (.int .i64 m.sterm) ∧ w'.cell? ⟨q + 1, 2, none⟩ = some (.slice a' m.ents.length cap')) ∧ Below W.heap.size W w')
        (first | assumption | exact ⟨HS.out _ (by assumption), by assumption⟩ | fail)
        (first | (go_at_call 65; refine Calls.mono (HC1.out _ (And.right (by assumption))) ?_; rintro en w5 ⟨rfl, hb5⟩; have hq5 := HK.out _ _ (And.right (by assumption)) hb5; clear hb5) | (go_at_call 23; refine Calls.mono (HC2.out _ (And.right (by assumption))) ?_; rintro en w5 ⟨rfl, hb5⟩; have hq5 := HK.out _ _ (And.right (by assumption)) hb5; clear hb5) | fail)
      all_goals (
        go_wp2
        go_ret
        exact ⟨rfl, HB.out.trans ((And.right (by assumption) : Below W.heap.size W _).mono HB.out.size)⟩)
    · have h1 : (l.sterm != m.sterm) = true := by simp [k1]
      rw [if_neg (fun h => k1 h.2)]
      rw [hW] at p0 p1 p2 q0 q1 q2
      clear k0 k1 hp0 hp1 hb
      go_enter Tryz.func29, Tryz.ntmps29
      go_wp2
      go_ret
      exact ⟨rfl, by rw [← hW]; exact HB.out⟩
  · have h0 : (l.start != m.start) = true := by simp [k0]
    rw [if_neg (fun h => k0 h.1)]
    rw [hW] at p0 p1 p2 q0 q1 q2
    clear k0 hp0 hp1 hb
    go_enter Tryz.func29, Tryz.ntmps29
    go_wp2
    go_ret
    exact ⟨rfl, by rw [← hW]; exact HB.out⟩
def nameLog : ByteArray := ⟨#[108, 111, 103]⟩
def nameNew : ByteArray := ⟨#[108, 111, 103, 43]⟩
/-- May the frames be put behind? -/
def Behind (s : ByteArray) (old now : LogL) (k : Nat) : Prop := (old.start = now.start ∧ old.sterm = now.sterm) ∧ k < now.ents.length ∧ s.size + (moreB now k).size ≤ 20000
def fileB (m : LogL) : ByteArray := ⟨(file m).toArray⟩
/-- What LogSteps answers. -/
def StepsIs (s : ByteArray) (old now lr : LogL) (er : Nat) (Rr : Bool) (k : Nat) (L : List RawL) (ok : Bool) : Prop :=
  (¬ (okL now = true ∧ Rr = true ∧ er = s.size ∧ lr = old) ∧ L = [] ∧ ok = false) ∨
  ((okL now = true ∧ Rr = true ∧ er = s.size ∧ lr = old) ∧ ok = true ∧ ((old = now ∧ L = []) ∨ (old ≠ now ∧ ((Behind s old now k ∧ L = [⟨2, nameLog, ⟨#[]⟩, moreB now k⟩]) ∨ (¬ Behind s old now k ∧ L = [⟨1, nameNew, ⟨#[]⟩, fileB now⟩, ⟨3, nameNew, nameLog, ⟨#[]⟩⟩])))))
def StepsPost (w : World) (L : List RawL) (ok : Bool) (en : Ending) (w' : World) : Prop := ∃ v, en = .returned (.tuple #[v, .bool ok]) ∧ w'.ownsRow w.heap.size 69 4 v L.length (cellsRw L) ∧ Below w.heap.size w w'
theorem more_none {m : LogL} {k : Nat} (h : m.ents.length ≤ k) : moreB m k = ⟨#[]⟩ := by
  unfold moreB
  rw [List.drop_of_length_le h]
  rfl
theorem frame_pos (x : List UInt8) : 0 < (Words.frame x).length := by
  unfold Words.frame
  have : (Sums.four (Sums.sumOf x)).length = 4 := rfl
  simp only [List.length_append]
  omega
theorem more_some {m : LogL} {k : Nat} (h : k < m.ents.length) : 0 < (moreB m k).size := by
  have h1 := Logs.recs_drop m.ents m.start.toNat 0 k h
  simp only [Nat.zero_add] at h1
  show 0 < (frames (recs m.start.toNat k (m.ents.drop k))).toArray.size
  rw [h1, Logs.frames_cons]
  simp only [List.size_toArray, List.length_append]
  have := frame_pos (Ents.text (m.start.toNat + 1 + k) m.ents[k])
  omega
end Go.Proofs.YtahpoemmlpbgdaaGreat
