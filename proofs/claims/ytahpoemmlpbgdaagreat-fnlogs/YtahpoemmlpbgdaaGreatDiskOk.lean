/- Rows of files in memory: two cells each; no program is named but for its types. Plain facts on disks as lists of files: which are right. The call of the specification's DiskOk, walked. -/
import Derived.Test.YtahpoemmlpbgdaaGreatMarkA
import Derived.Test.YtahpoemmlpbgdaaGreatImplSteps
import Derived.WalkKit
import Derived.WalkSpells
import Derived.WalkLawsBesides
import Derived.Laws.IdiomStrings
import Derived.Laws.BytesArg
import Derived.Laws.BitsAllLaws
import Derived.Deep.RegionWith
import Derived.Deep.QuietTactic
import Derived.BigQuiet
import Derived.Deep.RegionHeld3
namespace Go.Proofs.YtahpoemmlpbgdaaGreat
open Go.RowKit

abbrev FileL := ByteArray × ByteArray
/-- A slice at a whose elements are these files. -/
def FilesAt (w : World) (a : Option Addr) (g off : Nat) (l : List FileL) : Prop :=
  (0 < l.length → a = some ⟨g, off, none⟩) ∧ ∀ j (hj : j < l.length), w.cell? ⟨g, off + j * 2, none⟩ = some (.string l[j].1) ∧ w.cell? ⟨g, off + j * 2 + 1, none⟩ = some (.string l[j].2)
theorem FilesAt.lt {w : World} {a : Option Addr} {g off : Nat} {l : List FileL} (h : FilesAt w a g off l) (hl : 0 < l.length) : g < w.heap.size := by
  have := World.block_lt_of_cell? w _ (h.2 0 hl).1
  exact this
theorem FilesAt.kept {w w' : World} {a : Option Addr} {g off : Nat} {l : List FileL} (h : FilesAt w a g off l) (hb : Below w.heap.size w w') : FilesAt w' a g off l := by
  refine ⟨h.1, fun j hj => ?_⟩
  have hg := h.lt (by omega)
  rw [hb.cell (p := ⟨g, off + j * 2, none⟩) hg, hb.cell (p := ⟨g, off + j * 2 + 1, none⟩) hg]
  exact h.2 j hj
/-- How much files hold. -/
def tot : List FileL → Nat
  | [] => 0
  | f :: r => f.1.size + f.2.size + 1 + tot r
theorem tot_len : ∀ l : List FileL, l.length ≤ tot l
  | [] => by simp [tot]
  | f :: r => by have := tot_len r; simp only [List.length_cons, tot]; omega
/-- The cells of a row of files. -/
def cellsF (l : List FileL) : List Value := l.flatMap fun f => [.string f.1, .string f.2]
theorem cellsF_len : ∀ l : List FileL, (cellsF l).length = l.length * 2
  | [] => rfl
  | f :: r => by have := cellsF_len r; simp only [cellsF, List.flatMap_cons, List.length_append, List.length_cons, List.length_nil] at *; omega
theorem cellsF_app (l m : List FileL) : cellsF (l ++ m) = cellsF l ++ cellsF m := by simp [cellsF]
theorem cellsF_at : ∀ (l : List FileL) (j : Nat) (hj : j < l.length), (cellsF l)[j * 2]? = some (.string l[j].1) ∧ (cellsF l)[j * 2 + 1]? = some (.string l[j].2)
  | f :: r, 0, _ => ⟨rfl, rfl⟩
  | f :: r, j + 1, hj => by
    have := cellsF_at r j (by simpa using hj)
    simpa [cellsF, Nat.add_mul, Nat.add_assoc] using this
theorem Tryz.info38 : (Tryz.prog.info? 38).map (fun i => (i.zero, i.size, i.bytes)) = some (some (.agg #[.string ByteArray.empty, .string ByteArray.empty]), 2, 32) := by kernel_rfl
theorem own_files {w : World} {base : Nat} {e : TypeId} {g n cap : Nat} {l : List FileL} (hn : l.length = n) (h : w.ownsRow base e 2 (.slice (some ⟨g, 0, none⟩) n cap) n (cellsF l)) : FilesAt w (some ⟨g, 0, none⟩) g 0 l := by
  refine ⟨fun _ => rfl, fun j hj => ?_⟩
  rw [Nat.zero_add, h.cellAt (j * 2) (by omega), h.cellAt (j * 2 + 1) (by omega)]
  exact cellsF_at l j hj
end Go.Proofs.YtahpoemmlpbgdaaGreat
namespace Go.Proofs.YtahpoemmlpbgdaaGreat.Disks
open Go
/-- Texts byte by byte, a beginning being less. -/
def lt (a b : ByteArray) : Bool := Op.bytesLess a.toList b.toList
def fileOk (f : FileL) : Prop := 1 ≤ f.1.size ∧ f.1.size ≤ 12 ∧ f.2.size ≤ 20000
def fileOkB (f : FileL) : Bool := decide (1 ≤ f.1.size ∧ f.1.size ≤ 12 ∧ f.2.size ≤ 20000)
theorem fileOkB_iff (f : FileL) : fileOkB f = true ↔ fileOk f := decide_eq_true_iff
/-- Is the file at j right, and behind the one ahead of it? -/
def okAt (l : List FileL) (j : Nat) : Prop := ∃ hj : j < l.length, fileOk l[j] ∧ (0 < j → ∃ hi : j - 1 < l.length, lt l[j - 1].1 l[j].1 = true)
def ok (l : List FileL) : Prop := l.length ≤ 30 ∧ ∀ j, j < l.length → okAt l j
/-- The same, reckoned. -/
def okAtB (l : List FileL) (j : Nat) : Bool := match l[j]? with
  | none => false
  | some f => fileOkB f && (j == 0 || match l[j - 1]? with | none => false | some e => lt e.1 f.1)
def okB (l : List FileL) : Bool := decide (l.length ≤ 30) && (List.range l.length).all (okAtB l)
theorem okAtB_iff (l : List FileL) (j : Nat) : okAtB l j = true ↔ okAt l j := by
  unfold okAtB okAt
  by_cases hj : j < l.length
  · rw [List.getElem?_eq_getElem hj]
    simp only [Bool.and_eq_true, fileOkB_iff, Bool.or_eq_true, beq_iff_eq]
    constructor
    · rintro ⟨h1, h2⟩
      refine ⟨hj, h1, fun hp => ⟨by omega, ?_⟩⟩
      rcases h2 with h2 | h2
      · omega
      · rw [List.getElem?_eq_getElem (show j - 1 < l.length by omega)] at h2; exact h2
    · rintro ⟨_, h1, h2⟩
      refine ⟨h1, ?_⟩
      by_cases hz : j = 0
      · exact Or.inl hz
      · right
        obtain ⟨hi, h3⟩ := h2 (by omega)
        rw [List.getElem?_eq_getElem hi]; exact h3
  · rw [List.getElem?_eq_none (by omega)]
    simp [hj]
theorem okB_iff (l : List FileL) : okB l = true ↔ ok l := by
  unfold okB ok
  simp only [Bool.and_eq_true, decide_eq_true_eq, List.all_eq_true, List.mem_range, okAtB_iff]
theorem ok_step {l : List FileL} {k : Nat} (h : ∀ j, j < k → okAt l j) (hk : okAt l k) : ∀ j, j < k + 1 → okAt l j := fun j hj => by
  rcases Nat.lt_succ_iff_lt_or_eq.1 hj with h1 | h1
  · exact h j h1
  · rw [h1]; exact hk
theorem not_ok {l : List FileL} {j : Nat} (hj : j < l.length) (h : ¬ okAt l j) : ¬ ok l := fun h2 => h (h2.2 j hj)
/-- Is this the file's name? -/
def nameIs (n : ByteArray) (f : FileL) : Bool := f.1.toList == n.toList
def At (l : List FileL) (n : ByteArray) (k : Nat) : Prop := ∃ hk : k < l.length, nameIs n l[k] = true ∧ ∀ j (hj : j < k), nameIs n (l[j]'(Nat.lt_trans hj hk)) = false
def None (l : List FileL) (n : ByteArray) : Prop := ∀ j (hj : j < l.length), nameIs n l[j] = false
theorem at_or_none (l : List FileL) (n : ByteArray) : None l n ∨ ∃ k, At l n k := by
  cases h : l.findIdx? (nameIs n) with
  | none =>
    left
    intro j hj
    have := List.findIdx?_eq_none_iff.1 h l[j] (List.getElem_mem _)
    simpa using this
  | some k =>
    right
    obtain ⟨hk, h1, h2⟩ := List.findIdx?_eq_some_iff_getElem.1 h
    exact ⟨k, hk, h1, fun j hj => by simpa using h2 j hj⟩
theorem at_unique {l : List FileL} {n : ByteArray} {k k' : Nat} (h : At l n k) (h' : At l n k') : k = k' := by
  obtain ⟨hk, h1, h2⟩ := h
  obtain ⟨hk', h1', h2'⟩ := h'
  rcases Nat.lt_trichotomy k k' with q | q | q
  · have := h2' k q; rw [h1] at this; cases this
  · exact q
  · have := h2 k' q; rw [h1'] at this; cases this
/-- Greater, as the model of the language has it. -/
def gt (a b : ByteArray) : Bool := !(Op.bytesLess a.toList b.toList || a.toList == b.toList)
/-- A file put among others, by name. -/
def put (l : List FileL) (f : FileL) : List FileL := l.filter (fun e => lt e.1 f.1) ++ [f] ++ l.filter (fun e => gt e.1 f.1)
def drop (l : List FileL) (n : ByteArray) : List FileL := l.filter fun f => !nameIs n f
/-- The text of a file, empty when there is none. -/
def TextIs (l : List FileL) (n t : ByteArray) : Prop := (None l n ∧ t = ⟨#[]⟩) ∨ ∃ k, ∃ h : k < l.length, At l n k ∧ t = l[k].2
/-- What FileAt tells. -/
def FileIs (l : List FileL) (n : ByteArray) : Option ByteArray → Prop
  | none => ¬ ok l ∨ None l n
  | some t => ok l ∧ ∃ k, ∃ h : k < l.length, At l n k ∧ t = l[k].2
end Go.Proofs.YtahpoemmlpbgdaaGreat.Disks
namespace Go.Proofs.YtahpoemmlpbgdaaGreat
open Go.RowKit

set_option maxHeartbeats 400000 in
theorem in_yes_pk (x a b : Int) (h : a ≤ x ∧ x ≤ b) (w : World) :
    Calls Tryz.prog 39 #[.int .i64 x, .int .i64 a, .int .i64 b] w fun e w' => e = .returned (.bool true) ∧ w = w' := by
  obtain ⟨h1, h2⟩ := h
  go_enter Tryz.func39, Tryz.ntmps39
  go_wp2
  go_ret
  exact ⟨rfl, rfl⟩
set_option maxHeartbeats 400000 in
theorem in_no_pk (x a b : Int) (h : ¬ (a ≤ x ∧ x ≤ b)) (w : World) :
    Calls Tryz.prog 39 #[.int .i64 x, .int .i64 a, .int .i64 b] w fun e w' => e = .returned (.bool false) ∧ w = w' := by
  by_cases h1 : a ≤ x
  · have h2 : ¬ x ≤ b := fun h3 => h ⟨h1, h3⟩
    go_enter Tryz.func39, Tryz.ntmps39
    go_wp2
    go_ret
    exact ⟨rfl, rfl⟩
  · go_enter Tryz.func39, Tryz.ntmps39
    go_wp2
    go_ret
    exact ⟨rfl, rfl⟩
theorem in_yes_q (x a b : Int) (h : a ≤ x ∧ x ≤ b) (w : World) :
    Calls Tryz.prog 39 #[.int .i64 x, .int .i64 a, .int .i64 b] w fun e w' => e = .returned (.bool true) ∧ w' = w := (in_yes_pk x a b h w).mono fun _ _ ⟨h1, h2⟩ => ⟨h1, h2.symm⟩
theorem in_no_q (x a b : Int) (h : ¬ (a ≤ x ∧ x ≤ b)) (w : World) :
    Calls Tryz.prog 39 #[.int .i64 x, .int .i64 a, .int .i64 b] w fun e w' => e = .returned (.bool false) ∧ w' = w := (in_no_pk x a b h w).mono fun _ _ ⟨h1, h2⟩ => ⟨h1, h2.symm⟩
set_option maxHeartbeats 4000000 in
set_option maxRecDepth 100000 in
theorem specDiskOk_big (R : Bool) {a : Option Addr} {g off cap : Nat} (l : List FileL) (hlen : l.length ≤ 1048576) (w : World) (hf : FilesAt w a g off l) (hsz : ∀ f ∈ l, f.1.size ≤ 2097152 ∧ f.2.size ≤ 2097152) (hR : R = true ↔ Disks.ok l) :
    Calls Tryz.prog 33 #[.agg #[.slice a l.length cap]] w fun e w' => e = .returned (.bool R) ∧ Below w.heap.size w w' := by
  have HR : Hid (R = true ↔ Disks.ok l) := hR
  clear hR
  have HF : Hid (FilesAt w a g off l) := hf
  have HS : Hid (∀ f ∈ l, f.1.size ≤ 2097152 ∧ f.2.size ≤ 2097152) := hsz
  clear hf hsz
  by_cases h30 : 30 < l.length
  · have h1 : (30 : Int) < (l.length : Int) := by omega
    go_enter Tryz.func33, Tryz.ntmps33
    go_wp2
    go_ret
    exact ⟨by rw [ans_no HR.out (fun h => by have := h.1; omega)]; rfl, (Below.refl _ _).alloc (Nat.le_refl _) _⟩
  · have h1 : ¬ (30 : Int) < (l.length : Int) := by omega
    go_enter Tryz.func33, Tryz.ntmps33
    go_wp2
    go_loopw [3] (fun i wr => ∃ k : Nat, k ≤ l.length ∧ i = .int .i64 (k : Int) ∧ (∀ j, j < k → Disks.okAt l j) ∧ wr.cell? ⟨w.heap.size, 0, none⟩ = some (.slice a l.length cap) ∧ Below w.heap.size w wr)
      (fun i _ => l.length - (intOf i).toNat)
    case atStart => exact ⟨0, Nat.zero_le _, rfl, fun j hj => absurd hj (Nat.not_lt_zero _), cell_of_row _ _ _ _ _ _ (heap_alloc_new w _), (Below.refl _ _).alloc (Nat.le_refl _) _⟩
    case round =>
      obtain ⟨k, hk, rfl, hall, hd, hbel⟩ := hrel
      have HA : Hid (∀ j, j < k → Disks.okAt l j) := hall
      clear hall
      by_cases hlt : k < l.length
      · obtain ⟨c0, c1⟩ := (HF.out.kept hbel).2 k hlt
        have ea := HF.out.1 (by omega)
        subst ea
        obtain ⟨A, hA⟩ : ∃ A, A = l[k].1 := ⟨_, rfl⟩
        obtain ⟨T, hT⟩ : ∃ T, T = l[k].2 := ⟨_, rfl⟩
        obtain ⟨s0, s1⟩ := HS.out l[k] (List.getElem_mem _)
        rw [← hA] at c0 s0
        rw [← hT] at c1 s1
        have HAA : Hid (A = l[k].1) := hA
        have HTT : Hid (T = l[k].2) := hT
        clear hA hT
        have hk0 : (0 : Int) ≤ (k : Int) := by omega
        have hk1 : (k : Int) < (l.length : Int) := by omega
        by_cases hn : 1 ≤ A.size ∧ A.size ≤ 12
        · by_cases ht : 20000 < T.size
          · have hti : (20000 : Int) < (T.size : Int) := by omega
            have htd : decide ((20000 : Int) < (T.size : Int)) = true := decide_eq_true hti
            have HN : Hid (¬ Disks.okAt l k) := by
              show ¬ _
              rintro ⟨_, ⟨_, _, q3⟩, _⟩
              rw [← HTT.out] at q3
              omega
            go_wp2
            go_quiet (first | (go_at_call 39; exact Calls.quiet_of_same (in_yes_q (A.size : Int) 1 12 (by omega) _)))
            go_wp2
            go_ret
            exact ⟨by rw [ans_no HR.out (Disks.not_ok hlt HN.out)]; rfl, below_drewN hbel _⟩
          · have hti : ¬ (20000 : Int) < (T.size : Int) := by omega
            have htd : decide ((20000 : Int) < (T.size : Int)) = false := decide_eq_false hti
            rcases Nat.eq_zero_or_pos k with hz | hp
            · have hkd : decide (0 < k) = false := decide_eq_false (by omega)
              have HZ : Hid (k = 0) := hz
              have HN : Hid (Disks.okAt l k) := ⟨hlt, ⟨by rw [← HAA.out]; exact hn.1, by rw [← HAA.out]; exact hn.2, by rw [← HTT.out]; omega⟩, fun h => absurd h (by omega)⟩
              clear hz
              go_wp2
              go_quiet (first | (go_at_call 39; exact Calls.quiet_of_same (in_yes_q (A.size : Int) 1 12 (by omega) _)))
              go_wp2
              go_roundw
              case rel => exact ⟨k + 1, by omega, by go_num, Disks.ok_step HA.out HN.out, hd, below_drewN hbel _⟩
              case measure => simp [intOf]; omega
            · obtain ⟨m, rfl⟩ : ∃ m, k = m + 1 := ⟨k - 1, by omega⟩
              obtain ⟨e0, _⟩ := (HF.out.kept hbel).2 m (by omega)
              obtain ⟨E, hE⟩ : ∃ E, E = l[m].1 := ⟨_, rfl⟩
              rw [← hE] at e0
              have HEE : Hid (E = l[m].1) := hE
              clear hE
              have hm1 : IntKind.i64.wrap ((m : Int) + 1 - 1) = (m : Int) := by rw [IntWalk.i64_in _ (by omega)]; omega
              have hm2 : decide ((0 : Int) < (m : Int) + 1) = true := decide_eq_true (by omega)
              have hm3 : (0 : Int) ≤ (m : Int) := by omega
              have hm4 : (m : Int) < (l.length : Int) := by omega
              by_cases hb : Op.bytesLess E.toList A.toList = true
              · go_wp2
                go_quiet (first | (go_at_call 39; exact Calls.quiet_of_same (in_yes_q (A.size : Int) 1 12 (by omega) _)))
                have HN : Hid (Disks.okAt l (m + 1)) := ⟨hlt, ⟨by rw [← HAA.out]; exact hn.1, by rw [← HAA.out]; exact hn.2, by rw [← HTT.out]; omega⟩, fun _ => ⟨by omega, by show Op.bytesLess _ _ = true; rw [← HAA.out]; simp only [Nat.add_sub_cancel]; rw [← HEE.out]; exact hb⟩⟩
                go_wp2
                go_roundw
                case rel => exact ⟨m + 1 + 1, by omega, by go_num, Disks.ok_step HA.out HN.out, hd, below_drewN hbel _⟩
                case measure => simp [intOf]; omega
              · have hb' : Op.bytesLess E.toList A.toList = false := by simpa using hb
                have HN : Hid (¬ Disks.okAt l (m + 1)) := by
                  show ¬ _
                  rintro ⟨_, _, q⟩
                  obtain ⟨_, q2⟩ := q (by omega)
                  simp only [Nat.add_sub_cancel, Disks.lt] at q2
                  rw [← HAA.out, ← HEE.out] at q2
                  exact hb q2
                go_wp2
                go_quiet (first | (go_at_call 39; exact Calls.quiet_of_same (in_yes_q (A.size : Int) 1 12 (by omega) _)))
                go_wp2
                go_ret
                exact ⟨by rw [ans_no HR.out (Disks.not_ok hlt HN.out)]; rfl, below_drewN hbel _⟩
        · have HN : Hid (¬ Disks.okAt l k) := by
            show ¬ _
            rintro ⟨_, ⟨q1, q2, _⟩, _⟩
            rw [← HAA.out] at q1 q2
            exact hn ⟨q1, q2⟩
          go_wp2
          go_quiet (first | (go_at_call 39; exact Calls.quiet_of_same (in_no_q (A.size : Int) 1 12 (by omega) _)))
          go_wp2
          go_ret
          exact ⟨by rw [ans_no HR.out (Disks.not_ok hlt HN.out)]; rfl, below_drewN hbel _⟩
      · have hk1 : ¬ (k : Int) < (l.length : Int) := by omega
        go_wp2
        go_ret
        exact ⟨by rw [HR.out.2 ⟨by omega, fun j hj => HA.out j (by omega)⟩]; rfl, hbel⟩
theorem specDiskOk_any (R : Bool) {a : Option Addr} {g off cap : Nat} (l : List FileL) (hlen : l.length ≤ 1048576) (w : World) (hf : FilesAt w a g off l) (hsz : ∀ f ∈ l, f.1.size ≤ 1048576 ∧ f.2.size ≤ 1048576) (hR : R = true ↔ Disks.ok l) :
    Calls Tryz.prog 33 #[.agg #[.slice a l.length cap]] w fun e w' => e = .returned (.bool R) ∧ Below w.heap.size w w' :=
  specDiskOk_big R l hlen w hf (fun f h => by have := hsz f h; omega) hR
end Go.Proofs.YtahpoemmlpbgdaaGreat
