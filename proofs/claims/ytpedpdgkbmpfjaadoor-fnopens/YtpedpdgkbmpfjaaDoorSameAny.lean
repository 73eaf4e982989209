/- The law of sessions, walked. The laws' sameMap at any two lists, walked. Made by program. -/
import Derived.Test.YtpedpdgkbmpfjaaDoorLCm
import Derived.Test.YtpedpdgkbmpfjaaDoorImplAct
import Derived.Test.YtpedpdgkbmpfjaaDoorMapGet
namespace Go.Proofs.YtpedpdgkbmpfjaaDoor
open Go.RowKit
open Cmds (okC)
open Acts (sess act nextN decS openR expR staleR gapR)
set_option linter.unusedVariables false
set_option linter.unusedSimpArgs false

theorem actI {T i : Nat} {a : Option Addr} {g off cap : Nat} (m : List PairL) (c : CmdL) (hG : Acts.Good T m) (hT : T ≤ 20) (hi : i ≤ 99) (hok : okC c = true) (hv : c.val.size ≤ 5) {m' : List PairL} {r : ByteArray} (h : act m i c = (m', r)) (W : World) (hf : PairAt W a g off m) :
    Calls Tryd.prog 11 #[.slice a m.length cap, .int .i64 (i : Int), .agg #[.int .i64 c.op, .int .i64 c.ses, .int .i64 c.seq, .string c.key, .string c.val, .string c.old]] W (OutI m' r W) := by
  have q := implAct_is (cap := cap) m c hG hT hi hok hv W hf
  rw [h] at q
  exact q
theorem actI1 {T i : Nat} {a : Option Addr} {g off cap : Nat} (m : List PairL) (c : CmdL) (hG : Acts.Good T m) (hT : T ≤ 20) (hi : i + 1 ≤ 99) (hok : okC c = true) (hv : c.val.size ≤ 5) {m' : List PairL} {r : ByteArray} (h : act m (i + 1) c = (m', r)) (W : World) (hf : PairAt W a g off m) :
    Calls Tryd.prog 11 #[.slice a m.length cap, .int .i64 ((i : Int) + 1), .agg #[.int .i64 c.op, .int .i64 c.ses, .int .i64 c.seq, .string c.key, .string c.val, .string c.old]] W (OutI m' r W) := by
  have q := actI (cap := cap) m c hG hT hi hok hv h W hf
  have e : ((i + 1 : Nat) : Int) = (i : Int) + 1 := by omega
  rw [e] at q
  exact q
theorem str_ne {R : ByteArray} {A : Array UInt8} (h : R ≠ ⟨A⟩) : (R.toList == A.toList) = false := by
  refine beq_eq_false_iff_ne.2 fun e => h ?_
  apply Batches.by_inj
  rw [ByteArray.toList_eq] at e
  exact e
end Go.Proofs.YtpedpdgkbmpfjaaDoor
namespace Go.Proofs.YtpedpdgkbmpfjaaDoor
open Go.RowKit
set_option linter.unusedVariables false

theorem beq_not {A B : ByteArray} (h : A ≠ B) : (A.toList == B.toList) = false := by
  refine beq_eq_false_iff_ne.2 fun e => h ?_
  apply Batches.by_inj
  rw [ByteArray.toList_eq, ByteArray.toList_eq] at e
  exact e
/-- True, or the lists are unlike. -/
def SameR (l l' : List PairL) (w : World) (e : Ending) (w' : World) : Prop := ∃ R, e = .returned (.bool R) ∧ (R = false → l ≠ l') ∧ Below w.heap.size w w'
set_option maxHeartbeats 2000000 in
set_option maxRecDepth 100000 in
theorem sameMap_any {a b : Option Addr} {g off cap h off' cap' : Nat} (l l' : List PairL) (hlen : l.length ≤ 1048576) (w : World) (hf : PairAt w a g off l) (hf' : PairAt w b h off' l') :
    Calls Tryd.prog 17 #[.slice a l.length cap, .slice b l'.length cap'] w (SameR l l' w) := by
  have HF : Hid (PairAt w a g off l) := hf
  have HF' : Hid (PairAt w b h off' l') := hf'
  clear hf hf'
  by_cases hll : l.length = l'.length
  · have h0 : ((l.length : Int) != (l'.length : Int)) = false := by simp [hll]
    have HLL : Hid (l.length = l'.length) := hll
    clear hll
    go_enter Tryd.func17, Tryd.ntmps17
    go_wp2
    clear h0
    go_loopw [5] (fun i wr => ∃ k : Nat, k ≤ l.length ∧ i = .int .i64 (k : Int) ∧ Below w.heap.size w wr)
      (fun i _ => l.length - (intOf i).toNat)
    case atStart => exact ⟨0, Nat.zero_le _, rfl, Below.refl _ _⟩
    case round =>
      obtain ⟨k, hk, rfl, hbel⟩ := hrel
      by_cases hlt : k < l.length
      · have hlt' : k < l'.length := by have := HLL.out; omega
        obtain ⟨c0, c1⟩ := (HF.out.kept hbel).2 k hlt
        obtain ⟨d0, d1⟩ := (HF'.out.kept hbel).2 k hlt'
        have ea := HF.out.1 (by omega)
        have eb := HF'.out.1 (by omega)
        subst ea eb
        have HKEY : Hid (¬ (l[k].key = l'[k].key ∧ l[k].value = l'[k].value) → l ≠ l') := fun hn e => by
          subst e
          exact hn ⟨rfl, rfl⟩
        obtain ⟨A, qA⟩ : ∃ A, A = l[k].key := ⟨_, rfl⟩
        obtain ⟨V, qV⟩ : ∃ V, V = l[k].value := ⟨_, rfl⟩
        obtain ⟨B, qB⟩ : ∃ B, B = l'[k].key := ⟨_, rfl⟩
        obtain ⟨U, qU⟩ : ∃ U, U = l'[k].value := ⟨_, rfl⟩
        rw [← qA] at c0 HKEY
        rw [← qV] at c1 HKEY
        rw [← qB] at d0 HKEY
        rw [← qU] at d1 HKEY
        clear qA qV qB qU
        have hl1 : (k : Int) < (l'.length : Int) := by omega
        by_cases hA : A = B
        · by_cases hV : V = U
          · subst hA hV
            have bA := beq_yes (A := A) rfl
            have bV := beq_yes (A := V) rfl
            have hk0 : (0 : Int) ≤ (k : Int) := by omega
            have hk1 : (k : Int) < (l.length : Int) := by omega
            go_wp2
            have NE := Abv.ne wr
            have C0 := fun x : Abv wr => x.cell c0
            have D0 := fun x : Abv wr => x.cell d0
            have C1 := fun x : Abv wr => x.cell c1
            have D1 := fun x : Abv wr => x.cell d1
            refine wp_region_above (by kernel_rfl) (by kernel_rfl) ?_
            repeat (go_big_quiet_step (fail))
            refine wpQuiet_nil ?_
            rintro w1 ⟨⟨_, hb1⟩, rfl⟩
            clear NE C0 D0 C1 D1
            go_wp2
            go_roundw
            case rel => exact ⟨k + 1, by omega, by go_num, hbel.trans (hb1.mono hbel.size)⟩
            case measure => simp [intOf]; omega
          · have HNE : Hid (l ≠ l') := HKEY.out fun e => hV e.2
            have bA := beq_yes (A := A) rfl
            have bV := beq_not hV
            subst hA
            have hk0 : (0 : Int) ≤ (k : Int) := by omega
            have hk1 : (k : Int) < (l.length : Int) := by omega
            go_wp2
            have NE := Abv.ne wr
            have C0 := fun x : Abv wr => x.cell c0
            have D0 := fun x : Abv wr => x.cell d0
            have C1 := fun x : Abv wr => x.cell c1
            have D1 := fun x : Abv wr => x.cell d1
            refine wp_region_above (by kernel_rfl) (by kernel_rfl) ?_
            repeat (go_big_quiet_step (fail))
            refine wpQuiet_nil ?_
            rintro w1 ⟨⟨_, hb1⟩, rfl⟩
            clear NE C0 D0 C1 D1
            go_wp2
            go_ret
            exact ⟨false, rfl, fun _ e => HNE.out e, hbel.trans (hb1.mono hbel.size)⟩
        · have HNE : Hid (l ≠ l') := HKEY.out fun e => hA e.1
          have bA := beq_not hA
          have hk0 : (0 : Int) ≤ (k : Int) := by omega
          have hk1 : (k : Int) < (l.length : Int) := by omega
          go_wp2
          have NE := Abv.ne wr
          have C0 := fun x : Abv wr => x.cell c0
          have D0 := fun x : Abv wr => x.cell d0
          have C1 := fun x : Abv wr => x.cell c1
          have D1 := fun x : Abv wr => x.cell d1
          refine wp_region_above (by kernel_rfl) (by kernel_rfl) ?_
          repeat (go_big_quiet_step (fail))
          refine wpQuiet_nil ?_
          rintro w1 ⟨⟨_, hb1⟩, rfl⟩
          clear NE C0 D0 C1 D1
          go_wp2
          go_ret
          exact ⟨false, rfl, fun _ e => HNE.out e, hbel.trans (hb1.mono hbel.size)⟩
      · have hk1 : ¬ (k : Int) < (l.length : Int) := by omega
        go_wp2
        go_ret
        exact ⟨true, rfl, (fun e => by cases e), hbel⟩
  · have h0 : ((l.length : Int) != (l'.length : Int)) = true := by simp; omega
    go_enter Tryd.func17, Tryd.ntmps17
    go_wp2
    go_ret
    exact ⟨false, rfl, fun _ e => hll (by rw [e]), Below.refl _ _⟩
end Go.Proofs.YtpedpdgkbmpfjaaDoor
