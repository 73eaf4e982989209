/- The calls of MapGet, the specification's and the program's, walked. -/
import Derived.Test.YtpedpdgkbmpfjaaDoorMapOk
import Derived.Test.YtpedpdgkbmpfjaaDoorClone
namespace Go.Proofs.YtpedpdgkbmpfjaaDoor
open Go.RowKit
set_option linter.unusedVariables false

/-- x is the first place of a key, or -1. -/
def AtK (l : List PairL) (K : ByteArray) (x : Int) : Prop :=
  (∃ (j : Nat) (hj : j < l.length), x = (j : Int) ∧ l[j].key = K ∧ ∀ i (hi : i < j), l[i].key ≠ K) ∨ (x = -1 ∧ ∀ i (hi : i < l.length), l[i].key ≠ K)
theorem atK_hit {l : List PairL} {K : ByteArray} {x : Int} {k : Nat} (h : AtK l K x) (hk : k < l.length) (hm : ∀ i (hi : i < l.length), i < k → l[i].key ≠ K) (he : l[k].key = K) : x = (k : Int) := by
  rcases h with ⟨j, hj, rfl, h1, h2⟩ | ⟨_, h2⟩
  · rcases Nat.lt_trichotomy j k with q | q | q
    · exact absurd h1 (hm j hj q)
    · rw [q]
    · exact absurd he (h2 k q)
  · exact absurd he (h2 k hk)
theorem atK_miss {l : List PairL} {K : ByteArray} {x : Int} (h : AtK l K x) (hm : ∀ i (hi : i < l.length), l[i].key ≠ K) : x = -1 := by
  rcases h with ⟨j, hj, rfl, h1, h2⟩ | ⟨e, _⟩
  · exact absurd h1 (hm j hj)
  · exact e
theorem miss_step {l : List PairL} {K : ByteArray} {k : Nat} (h : ∀ i (hi : i < l.length), i < k → l[i].key ≠ K) (hk : k < l.length) (hn : l[k].key ≠ K) : ∀ i (hi : i < l.length), i < k + 1 → l[i].key ≠ K := fun i hi hik => by
  by_cases e : i = k
  · subst e; exact hn
  · exact h i hi (by omega)
theorem beq_yes {A K : ByteArray} (h : A = K) : (A.toList == K.toList) = true := (Maps.same_iff A K).2 h
theorem beq_no {A K : ByteArray} (h : ¬ A = K) : (A.toList == K.toList) = false := by
  cases e : (A.toList == K.toList)
  · rfl
  · exact absurd ((Maps.same_iff A K).1 e) h
set_option maxHeartbeats 1000000 in
set_option maxRecDepth 100000 in
theorem l06At_is {a : Option Addr} {g off cap : Nat} (l : List PairL) (hlen : l.length ≤ 2097152) (K : ByteArray) (x : Int) (hx : AtK l K x) (w : World) (hf : PairAt w a g off l) :
    Calls Tryd.prog 47 #[.slice a l.length cap, .string K] w fun e w' => e = .returned (.int .i64 x) ∧ w = w' := by
  have HF : Hid (PairAt w a g off l) := hf
  have HX : Hid (AtK l K x) := hx
  clear hf hx
  go_enter Tryd.func47, Tryd.ntmps47
  go_wp2
  go_loopw [5] (fun i wr => ∃ k : Nat, k ≤ l.length ∧ i = .int .i64 (k : Int) ∧ (∀ i (hi : i < l.length), i < k → l[i].key ≠ K) ∧ w = wr)
    (fun i _ => l.length - (intOf i).toNat)
  case atStart => exact ⟨0, Nat.zero_le _, rfl, fun i _ hi => absurd hi (Nat.not_lt_zero _), rfl⟩
  case round =>
    obtain ⟨k, hk, rfl, hm, rfl⟩ := hrel
    have HM : Hid (∀ i (hi : i < l.length), i < k → l[i].key ≠ K) := hm
    clear hm
    by_cases hlt : k < l.length
    · obtain ⟨c0, c1⟩ := HF.out.2 k hlt
      have ea := HF.out.1 (by omega)
      subst ea
      have hk0 : (0 : Int) ≤ (k : Int) := by omega
      have hk1 : (k : Int) < (l.length : Int) := by omega
      by_cases he : l[k].key = K
      · have HXX : Hid (x = (k : Int)) := atK_hit HX.out hlt HM.out he
        have hq := beq_yes he
        clear he
        go_wp2
        go_ret
        exact ⟨by rw [HXX.out]; rfl, rfl⟩
      · have HN : Hid (l[k].key ≠ K) := he
        have hq := beq_no he
        clear he
        go_wp2
        go_roundw
        case rel => exact ⟨k + 1, by omega, by go_num, miss_step HM.out hlt HN.out, trivial⟩
        case measure => simp [intOf]; omega
    · have hk1 : ¬ (k : Int) < (l.length : Int) := by omega
      have HXX : Hid (x = -1) := atK_miss HX.out fun i hi => HM.out i hi (by omega)
      go_wp2
      go_ret
      exact ⟨by rw [HXX.out]; rfl, rfl⟩
set_option maxHeartbeats 1000000 in
theorem l06Get_is {a : Option Addr} {g off cap : Nat} (l : List PairL) (hlen : l.length ≤ 2097152) (K : ByteArray) (k : Nat) (hk : k < l.length) (hx : AtK l K (k : Int)) (w : World) (hf : PairAt w a g off l) :
    Calls Tryd.prog 48 #[.slice a l.length cap, .string K] w fun e w' => e = .returned (.string l[k].value) ∧ w = w' := by
  obtain ⟨c0, c1⟩ := hf.2 k hk
  have ea := hf.1 (by omega)
  subst ea
  have HF : Hid (PairAt w _ g off l) := hf
  have HX : Hid (AtK l K (k : Int)) := hx
  clear hf hx
  have hk0 : (0 : Int) ≤ (k : Int) := by omega
  have hk1 : (k : Int) < (l.length : Int) := by omega
  have hk2 : ¬ (k : Int) < 0 := by omega
  go_enter Tryd.func48, Tryd.ntmps48
  go_wp2_with (go_at_call 47; refine (l06At_is l hlen K _ HX.out _ HF.out).mono ?_; rintro e w1 ⟨rfl, rfl⟩)
  go_ret
  exact ⟨rfl, rfl⟩
/-- What MapGet is to answer. -/
def GetR (l : List PairL) (K S : ByteArray) (R : Bool) : Prop :=
  (∃ (k : Nat) (hk : k < l.length), Maps.ok l ∧ AtK l K (k : Int) ∧ S = l[k].value ∧ R = true) ∨ ((¬ Maps.ok l ∨ AtK l K (-1)) ∧ S = ⟨#[]⟩ ∧ R = false)
set_option maxHeartbeats 1000000 in
theorem specGet_any {a : Option Addr} {g off cap : Nat} (l : List PairL) (hlen : l.length ≤ 2097152) (hsz : ∀ c ∈ l, smallPair 2097152 c) (K S : ByteArray) (R : Bool) (hR : GetR l K S R) (w : World) (hf : PairAt w a g off l) :
    Calls Tryd.prog 21 #[.slice a l.length cap, .string K] w fun e w' => e = .returned (.tuple #[.string S, .bool R]) ∧ Below w.heap.size w w' := by
  have HF : Hid (PairAt w a g off l) := hf
  have HS : Hid (∀ c ∈ l, smallPair 2097152 c) := hsz
  clear hf hsz
  by_cases hok : Maps.ok l
  · rcases hR with ⟨k, hk, _, hx, hS, rfl⟩ | ⟨h1, rfl, rfl⟩
    · have HX : Hid (AtK l K (k : Int)) := hx
      have HSS : Hid (S = l[k].value) := hS
      have hk2 : ¬ (k : Int) < 0 := by omega
      clear hx hS
      go_enter Tryd.func21, Tryd.ntmps21
      go_wp2_with (first | (go_at_call 18; refine (specMapOk_any true l hlen _ HF.out HS.out (by simp [hok])).mono ?_; rintro e w1 ⟨rfl, hb1⟩) | (go_at_call 47; refine (l06At_is l hlen K _ HX.out _ (HF.out.kept hb1)).mono ?_; rintro e w2 ⟨rfl, rfl⟩) | (go_at_call 48; refine (l06Get_is l hlen K k hk HX.out _ (HF.out.kept hb1)).mono ?_; rintro e w3 ⟨rfl, rfl⟩))
      go_ret2
      exact ⟨by rw [HSS.out]; rfl, hb1⟩
    · rcases h1 with h1 | hx
      · exact absurd hok h1
      · have HX : Hid (AtK l K (-1)) := hx
        clear hx
        go_enter Tryd.func21, Tryd.ntmps21
        go_wp2_with (first | (go_at_call 18; refine (specMapOk_any true l hlen _ HF.out HS.out (by simp [hok])).mono ?_; rintro e w1 ⟨rfl, hb1⟩) | (go_at_call 47; refine (l06At_is l hlen K _ HX.out _ (HF.out.kept hb1)).mono ?_; rintro e w2 ⟨rfl, rfl⟩))
        go_ret2
        exact ⟨rfl, hb1⟩
  · rcases hR with ⟨k, hk, h1, _⟩ | ⟨_, rfl, rfl⟩
    · exact absurd h1 hok
    · go_enter Tryd.func21, Tryd.ntmps21
      go_wp2_with (first | (go_at_call 18; refine (specMapOk_any false l hlen _ HF.out HS.out (by simp [hok])).mono ?_; rintro e w1 ⟨rfl, hb1⟩))
      go_ret2
      exact ⟨rfl, hb1⟩
set_option maxHeartbeats 1000000 in
set_option maxRecDepth 100000 in
theorem implGet_any {a : Option Addr} {g off cap : Nat} (l : List PairL) (hlen : l.length ≤ 2097152) (hsz : ∀ c ∈ l, smallPair 2097152 c) (K S : ByteArray) (R : Bool) (hR : GetR l K S R) (w : World) (hf : PairAt w a g off l) :
    Calls Tryd.prog 76 #[.slice a l.length cap, .string K] w fun e w' => e = .returned (.tuple #[.string S, .bool R]) ∧ Below w.heap.size w w' := by
  have HF : Hid (PairAt w a g off l) := hf
  have HS : Hid (∀ c ∈ l, smallPair 2097152 c) := hsz
  have HR : Hid (GetR l K S R) := hR
  clear hf hsz hR
  by_cases hok : Maps.ok l
  · have HO : Hid (Maps.ok l) := hok
    go_enter Tryd.func76, Tryd.ntmps76
    go_wp2_with (first | (go_at_call 32; refine (implMapOk_any true l hlen _ HF.out HS.out (by simp [hok])).mono ?_; rintro e w1 ⟨rfl, hb1⟩))
    clear hok
    go_loopw [13] (fun i wr => ∃ k : Nat, k ≤ l.length ∧ i = .int .i64 (k : Int) ∧ (∀ i (hi : i < l.length), i < k → l[i].key ≠ K) ∧ Below w.heap.size w wr)
      (fun i _ => l.length - (intOf i).toNat)
    case atStart => exact ⟨0, Nat.zero_le _, rfl, fun i _ hi => absurd hi (Nat.not_lt_zero _), hb1⟩
    case round =>
      obtain ⟨k, hk, rfl, hm, hbel⟩ := hrel
      have HM : Hid (∀ i (hi : i < l.length), i < k → l[i].key ≠ K) := hm
      clear hm hb1
      by_cases hlt : k < l.length
      · obtain ⟨c0, c1⟩ := (HF.out.kept hbel).2 k hlt
        have ea := HF.out.1 (by omega)
        subst ea
        have hk0 : (0 : Int) ≤ (k : Int) := by omega
        have hk1 : (k : Int) < (l.length : Int) := by omega
        have hB : Below w.heap.size w (wr.alloc (Obj.cells #[Value.string l[k].key, Value.string l[k].value] 48)) := hbel.alloc hbel.size _
        by_cases he : l[k].key = K
        · have HXX : Hid (S = l[k].value ∧ R = true) := by
            rcases HR.out with ⟨j, hj, _, hx, h1, h2⟩ | ⟨h1, _⟩
            · have := atK_hit hx hlt HM.out he
              have e : j = k := by omega
              subst e
              exact ⟨h1, h2⟩
            · rcases h1 with h1 | h1
              · exact absurd HO.out h1
              · have := atK_hit h1 hlt HM.out he
                omega
          have hq := beq_yes he
          have hz := (HS.out l[k] (List.getElem_mem _)).2
          clear he
          go_wp2_with (first | (go_at_call 65; refine (clone_any l[k].value (by omega) _).mono ?_; rintro e w2 ⟨rfl, hb2⟩))
          go_ret2
          exact ⟨by rw [HXX.out.1, HXX.out.2]; rfl, hB.trans (hb2.mono hB.size)⟩
        · have HN : Hid (l[k].key ≠ K) := he
          have hq := beq_no he
          clear he
          go_wp2
          go_roundw
          case rel => exact ⟨k + 1, by omega, by go_num, miss_step HM.out hlt HN.out, hB⟩
          case measure => simp [intOf]; omega
      · have hk1 : ¬ (k : Int) < (l.length : Int) := by omega
        have HXX : Hid (S = ⟨#[]⟩ ∧ R = false) := by
          rcases HR.out with ⟨j, hj, _, hx, h1, h2⟩ | ⟨_, h1⟩
          · have := atK_miss hx fun i hi => HM.out i hi (by omega)
            omega
          · exact h1
        go_wp2
        go_ret2
        exact ⟨by rw [HXX.out.1, HXX.out.2]; rfl, hbel⟩
  · rcases HR.out with ⟨k, hk, h1, _⟩ | ⟨_, rfl, rfl⟩
    · exact absurd h1 hok
    · go_enter Tryd.func76, Tryd.ntmps76
      go_wp2_with (first | (go_at_call 32; refine (implMapOk_any false l hlen _ HF.out HS.out (by simp [hok])).mono ?_; rintro e w1 ⟨rfl, hb1⟩))
      go_ret2
      exact ⟨rfl, hb1⟩
end Go.Proofs.YtpedpdgkbmpfjaaDoor
