/- What a command makes of the state, and that it stays as states are; no program is named here. -/
import Derived.Test.YtpedpdgkbmpfjaaDoorMathAct
namespace Go.Proofs.YtpedpdgkbmpfjaaDoor
set_option linter.unusedVariables false
set_option linter.unusedSimpArgs false
namespace Acts
open Go.Proofs.YtpedpdgkbmpfjaaDoor.Batches (by_ lt by_inj lt_iff lt_irrefl lt_trans lt_total lt_asymm)
open Go.Proofs.YtpedpdgkbmpfjaaDoor.Maps (putK cutK stepC same same_iff Asc)

/-- The number of the next session. -/
def nextN (m : List PairL) : Nat := match get m nkey with
  | none => 1
  | some v => (Words.rdD (by_ v) 0 true).getD 0
def pickL (a b : Ses) : Ses := if b.at_ < a.at_ ∨ (b.at_ = a.at_ ∧ b.id < a.id) then b else a
/-- The session that was heard of at the least index, of several the least one. -/
def least : List Ses → Ses
  | [] => ⟨0, 0, 0, ⟨#[]⟩⟩
  | s :: r => (s :: r).foldl pickL s
def Le (a b : Ses) : Prop := a.at_ < b.at_ ∨ (a.at_ = b.at_ ∧ a.id ≤ b.id)
theorem Le.refl (a : Ses) : Le a a := Or.inr ⟨rfl, Nat.le_refl _⟩
theorem Le.trans {a b c : Ses} (h : Le a b) (k : Le b c) : Le a c := by
  rcases h with h | ⟨h, h'⟩ <;> rcases k with k | ⟨k, k'⟩
  · exact Or.inl (by omega)
  · exact Or.inl (by omega)
  · exact Or.inl (by omega)
  · exact Or.inr ⟨by omega, by omega⟩
theorem pick_le (a b : Ses) : Le (pickL a b) a ∧ Le (pickL a b) b ∧ (pickL a b = a ∨ pickL a b = b) := by
  unfold pickL
  split
  · refine ⟨?_, Le.refl _, Or.inr rfl⟩
    rename_i h
    rcases h with h | ⟨h, h'⟩
    · exact Or.inl h
    · exact Or.inr ⟨h, by omega⟩
  · refine ⟨Le.refl _, ?_, Or.inl rfl⟩
    rename_i h
    unfold Le
    omega
theorem fold_le : ∀ (l : List Ses) (a : Ses), Le (l.foldl pickL a) a ∧ (∀ x ∈ l, Le (l.foldl pickL a) x) ∧ (l.foldl pickL a = a ∨ l.foldl pickL a ∈ l)
  | [], a => ⟨Le.refl _, fun x h => (by cases h), Or.inl rfl⟩
  | y :: l, a => by
    obtain ⟨h1, h2, h3⟩ := fold_le l (pickL a y)
    obtain ⟨p1, p2, p3⟩ := pick_le a y
    refine ⟨h1.trans p1, fun x hx => ?_, ?_⟩
    · rcases List.mem_cons.1 hx with rfl | hx
      · exact h1.trans p2
      · exact h2 x hx
    · show l.foldl pickL (pickL a y) = a ∨ l.foldl pickL (pickL a y) ∈ y :: l
      rcases h3 with h3 | h3
      · rw [h3]
        rcases p3 with p3 | p3
        · exact Or.inl p3
        · rw [p3]; exact Or.inr (List.mem_cons_self ..)
      · exact Or.inr (List.mem_cons_of_mem _ h3)
theorem least_mem {l : List Ses} (h : 0 < l.length) : least l ∈ l ∧ ∀ x ∈ l, Le (least l) x := by
  match l, h with
  | s :: r, _ =>
    obtain ⟨h1, h2, h3⟩ := fold_le (s :: r) s
    refine ⟨?_, h2⟩
    rcases h3 with h3 | h3
    · show (s :: r).foldl pickL s ∈ s :: r
      rw [h3]; exact List.mem_cons_self ..
    · exact h3
/-- What the least one is, told by its rank. -/
theorem least_is {l : List Ses} {s : Ses} (hs : s ∈ l) (h : ∀ x ∈ l, Le s x) (h1 : ∀ x ∈ l, x.id = s.id → x = s) : least l = s := by
  have hl : 0 < l.length := List.length_pos_of_mem hs
  obtain ⟨a, b⟩ := least_mem hl
  have x := h _ a
  have y := b _ hs
  refine h1 _ a ?_
  unfold Le at x y
  omega
def openR : ByteArray := ⟨#[111, 112, 101, 110, 32]⟩
def gotR : ByteArray := ⟨#[103, 111, 116, 32]⟩
def noneR : ByteArray := ⟨#[110, 111, 110, 101]⟩
def putR : ByteArray := ⟨#[112, 117, 116]⟩
def cutR : ByteArray := ⟨#[99, 117, 116]⟩
def swapR : ByteArray := ⟨#[115, 119, 97, 112, 112, 101, 100]⟩
def keptR : ByteArray := ⟨#[107, 101, 112, 116]⟩
def expR : ByteArray := ⟨#[101, 120, 112, 105, 114, 101, 100]⟩
def staleR : ByteArray := ⟨#[115, 116, 97, 108, 101]⟩
def gapR : ByteArray := ⟨#[103, 97, 112]⟩
def leftM (m : List PairL) : List PairL := if 3 ≤ (sess m).length then cutK m (skey (least (sess m)).id) else m
def openM (m : List PairL) (i : Nat) : List PairL := putK (putK (leftM m) nkey (decS (nextN m + 1))) (skey (nextN m)) (sval ⟨nextN m, 0, i, ⟨#[]⟩⟩)
/-- What an op changes, and what is replied to it. -/
def opC (m : List PairL) (c : CmdL) : List ChangeL :=
  if c.op = 2 then [] else if c.op = 3 then [⟨kkey c.key, c.val, false⟩]
  else if c.op = 4 then (if (get m (kkey c.key)).isSome then [⟨kkey c.key, ⟨#[]⟩, true⟩] else [])
  else if (get m (kkey c.key)).getD ⟨#[]⟩ = c.old then [⟨kkey c.key, c.val, false⟩] else []
def opR (m : List PairL) (c : CmdL) : ByteArray :=
  if c.op = 2 then (match get m (kkey c.key) with | some v => gotR ++ v | none => noneR) else if c.op = 3 then putR
  else if c.op = 4 then (if (get m (kkey c.key)).isSome then cutR else noneR)
  else if (get m (kkey c.key)).getD ⟨#[]⟩ = c.old then swapR else keptR
def opM (m : List PairL) (c : CmdL) : List PairL := (opC m c).foldl stepC m
def doneM (m : List PairL) (i : Nat) (c : CmdL) : List PairL := putK (opM m c) (skey c.ses.toNat) (sval ⟨c.ses.toNat, c.seq.toNat, i, opR m c⟩)
/-- The state behind a command, and what is replied. -/
def act (m : List PairL) (i : Nat) (c : CmdL) : List PairL × ByteArray :=
  if c.op = 1 then (openM m i, openR ++ decS (nextN m)) else
  match findS m c.ses with
  | none => (m, expR)
  | some s => if c.seq < (s.seq : Int) then (m, staleR) else if c.seq = (s.seq : Int) then (m, s.rep) else if (s.seq : Int) + 1 < c.seq then (m, gapR) else (doneM m i c, opR m c)

theorem split_len (k : ByteArray) : ∀ m : List PairL, (sess (m.filter fun p => lt p.key k)).length + (sess (m.filter fun p => lt k p.key)).length = (sess (cutK m k)).length
  | [] => rfl
  | p :: m => by
    have ih := split_len k m
    have key : ∀ l : List PairL, (sess (p :: l)).length = (sess [p]).length + (sess l).length := fun l => by
      show (List.filterMap parse ([p] ++ l)).length = _
      rw [List.filterMap_append, List.length_append]; rfl
    cases h1 : lt p.key k with
    | true =>
      have h2 : lt k p.key = false := lt_asymm h1
      have h3 : same p.key k = false := (Maps.same_lt h1).1
      have e1 : ((p :: m).filter fun p => lt p.key k) = p :: m.filter fun p => lt p.key k := by simp [h1]
      have e2 : ((p :: m).filter fun p => lt k p.key) = m.filter fun p => lt k p.key := by simp [h2]
      have e3 : cutK (p :: m) k = p :: cutK m k := by unfold cutK; simp [h3]
      rw [e1, e2, e3]
      have q1 := key (m.filter fun p => lt p.key k)
      have q2 := key (cutK m k)
      omega
    | false =>
      have e1 : ((p :: m).filter fun p => lt p.key k) = m.filter fun p => lt p.key k := by simp [h1]
      cases h2 : lt k p.key with
      | true =>
        have h3 : same p.key k = false := (Maps.same_lt h2).2
        have e2 : ((p :: m).filter fun p => lt k p.key) = p :: m.filter fun p => lt k p.key := by simp [h2]
        have e3 : cutK (p :: m) k = p :: cutK m k := by unfold cutK; simp [h3]
        rw [e1, e2, e3]
        have q1 := key (m.filter fun p => lt k p.key)
        have q2 := key (cutK m k)
        omega
      | false =>
        have h3 : same p.key k = true := (same_iff _ _).2 (lt_total h1 h2)
        have e2 : ((p :: m).filter fun p => lt k p.key) = m.filter fun p => lt k p.key := by simp [h2]
        have e3 : cutK (p :: m) k = cutK m k := by unfold cutK; simp [h3]
        rw [e1, e2, e3]; omega
theorem sess_len_put (m : List PairL) (k v : ByteArray) : (sess (putK m k v)).length = (sess (cutK m k)).length + (sess [⟨k, v⟩]).length := by
  rw [← split_len]
  have : putK m k v = (m.filter fun p => lt p.key k) ++ ([⟨k, v⟩] ++ m.filter fun p => lt k p.key) := rfl
  rw [this]
  unfold sess
  rw [List.filterMap_append, List.filterMap_append, List.length_append, List.length_append]
  omega
theorem sess_one_le (p : PairL) : (sess [p]).length ≤ 1 := by
  unfold sess
  have := List.length_filterMap_le parse [p]
  simpa using this
theorem sess_cut_le (m : List PairL) (k : ByteArray) : (sess (cutK m k)).length ≤ (sess m).length := (List.Sublist.filterMap parse (List.filter_sublist)).length_le
theorem sess_cut {T : Nat} {m : List PairL} (hT : T ≤ 90) (id : Nat) : (∀ p ∈ m, Enc T p) → sess (cutK m (skey id)) = (sess m).filter fun s => !(s.id == id) := by
  induction m with
  | nil => intro _; rfl
  | cons p m ih =>
    intro h
    have ih := ih fun q hq => h q (List.mem_cons_of_mem _ hq)
    rcases enc_parse hT (h p (List.mem_cons_self ..)) with ⟨h1, h2⟩ | ⟨s, h1, h2, h3⟩
    · have e : same p.key (skey id) = false := by
        cases hs : same p.key (skey id) with
        | false => rfl
        | true => exact absurd (by rw [(same_iff _ _).1 hs, by_skey]; rfl) h2
      have e3 : cutK (p :: m) (skey id) = p :: cutK m (skey id) := by unfold cutK; simp [e]
      rw [e3]
      show List.filterMap parse (p :: cutK m (skey id)) = (List.filterMap parse (p :: m)).filter _
      rw [List.filterMap_cons_none h1, List.filterMap_cons_none h1]
      exact ih
    · have hk : p.key = skey s.id := by rw [h2]
      show List.filterMap parse (cutK (p :: m) (skey id)) = (List.filterMap parse (p :: m)).filter _
      rw [List.filterMap_cons_some h1]
      by_cases e : s.id = id
      · have e3 : cutK (p :: m) (skey id) = cutK m (skey id) := by unfold cutK; simp [hk, e, (same_iff _ _).2]
        rw [e3, List.filter_cons_of_neg (by simp [e])]
        exact ih
      · have e2 : same p.key (skey id) = false := by
          cases hs : same p.key (skey id) with
          | false => rfl
          | true => exact absurd (skey_inj (hk.symm.trans ((same_iff _ _).1 hs))) e
        have e3 : cutK (p :: m) (skey id) = p :: cutK m (skey id) := by unfold cutK; simp [e2]
        rw [e3, List.filterMap_cons_some h1, List.filter_cons_of_pos (by simp [e])]
        rw [show List.filterMap parse (cutK m (skey id)) = sess (cutK m (skey id)) from rfl, ih]
        rfl
theorem sess_cut_lt {T : Nat} {m : List PairL} (hT : T ≤ 90) (h : ∀ p ∈ m, Enc T p) {s : Ses} (hs : s ∈ sess m) : (sess (cutK m (skey s.id))).length < (sess m).length := by
  rw [sess_cut hT s.id h]
  exact List.length_filter_lt_length_iff_exists.2 ⟨s, hs, by simp⟩
theorem dec_two {n : Nat} (h : n ≤ 99) : (Words.dec n).length ≤ 2 := by
  unfold Words.dec
  split
  · decide
  · exact Words.dig_len 2 n (by omega)
theorem decS_size {n : Nat} (h : n ≤ 99) : (decS n).size ≤ 2 := by
  have : (decS n).size = (Words.dec n).length := by show (Words.dec n).toArray.size = _; simp
  rw [this]; exact dec_two h
theorem skey_size {n : Nat} (h : n ≤ 99) : 1 ≤ (skey n).size ∧ (skey n).size ≤ 3 := by
  unfold skey
  rw [ByteArray.size_append]
  have := decS_size h
  have e : (⟨#[115]⟩ : ByteArray).size = 1 := rfl
  omega
theorem kkey_size (k : ByteArray) : (kkey k).size = k.size + 1 := by
  unfold kkey
  rw [ByteArray.size_append]
  have e : (⟨#[107]⟩ : ByteArray).size = 1 := rfl
  omega
theorem sval_size {s : Ses} (h1 : s.seq ≤ 99) (h2 : s.at_ ≤ 99) : (sval s).size ≤ s.rep.size + 6 := by
  unfold sval
  simp only [ByteArray.size_append]
  have := decS_size h1
  have := decS_size h2
  have e : (⟨#[32]⟩ : ByteArray).size = 1 := rfl
  omega
theorem nextN_in {T : Nat} {m : List PairL} (hT : T ≤ 90) (h : ∀ p ∈ m, Enc T p) : 1 ≤ nextN m ∧ nextN m ≤ T + 1 ∧ (get m nkey = none ∧ nextN m = 1 ∨ get m nkey = some (decS (nextN m))) := by
  unfold nextN
  cases hg : get m nkey with
  | none => exact ⟨Nat.le_refl _, by simp, Or.inl ⟨rfl, rfl⟩⟩
  | some v =>
    rcases h _ (get_mem hg) with ⟨k, h1, _⟩ | ⟨n, h1, h2, h3, h4⟩ | ⟨s, h1, _⟩
    · exact absurd h1.symm (k_ne_n k)
    · simp only at h2
      subst h2
      have e : Words.rdD (by_ (decS n)) 0 true = some n := rd_dec (by omega)
      simp only [e, Option.getD_some]
      exact ⟨h3, h4, Or.inr (by first | rfl | trivial)⟩
    · exact absurd h1 (n_ne_s s.id)
theorem get_k {T : Nat} {m : List PairL} (h : ∀ p ∈ m, Enc T p) {k v : ByteArray} (hg : get m (kkey k) = some v) : v.size ≤ 5 := by
  rcases h _ (get_mem hg) with ⟨k, h1, h2, h3⟩ | ⟨n, h1, h2, h3, h4⟩ | ⟨s, h1, _⟩
  · exact h3
  · exact absurd h1 (k_ne_n k)
  · exact absurd h1 (k_ne_s k s.id)
theorem opR_size {T : Nat} {m : List PairL} (h : ∀ p ∈ m, Enc T p) (c : CmdL) : (opR m c).size ≤ 9 := by
  unfold opR
  split
  · cases hg : get m (kkey c.key) with
    | none => simp only; decide
    | some v =>
      have := get_k h hg
      simp only [ByteArray.size_append]
      have e : gotR.size = 4 := rfl
      omega
  · split
    · decide
    · split
      · split <;> decide
      · split <;> decide
/-- The parts of a good state that one put or one cut keeps. -/
structure Part (T : Nat) (m : List PairL) : Prop where
  ok : ∀ p ∈ m, Maps.pairOk p
  asc : Asc m
  enc : ∀ p ∈ m, Enc T p
theorem Good.part {T : Nat} {m : List PairL} (h : Good T m) {T' : Nat} (hT : T ≤ T') : Part T' m := ⟨h.ok, h.asc, fun p hp => (h.enc p hp).mono hT⟩
theorem Part.put {T : Nat} {m : List PairL} (h : Part T m) {k v : ByteArray} (h1 : Maps.pairOk ⟨k, v⟩) (h2 : Enc T ⟨k, v⟩) : Part T (putK m k v) := by
  refine ⟨fun p hp => ?_, put_asc h.asc _ _, fun p hp => ?_⟩
  · rcases mem_put.1 hp with ⟨x, _⟩ | rfl
    · exact h.ok p x
    · exact h1
  · rcases mem_put.1 hp with ⟨x, _⟩ | rfl
    · exact h.enc p x
    · exact h2
theorem Part.cut {T : Nat} {m : List PairL} (h : Part T m) (k : ByteArray) : Part T (cutK m k) :=
  ⟨fun p hp => h.ok p (mem_cut.1 hp).1, cut_asc h.asc _, fun p hp => h.enc p (mem_cut.1 hp).1⟩
theorem left_part {T : Nat} {m : List PairL} (h : Part T m) : Part T (leftM m) := by
  unfold leftM
  split
  · exact h.cut _
  · exact h
theorem left_few {T : Nat} {m : List PairL} (hT : T ≤ 90) (h : Part T m) (hf : (sess m).length ≤ 3) : (sess (leftM m)).length ≤ 2 := by
  unfold leftM
  split
  · rename_i h3
    have := sess_cut_lt hT h.enc (least_mem (by omega : 0 < (sess m).length)).1
    omega
  · omega
theorem left_len (m : List PairL) : (leftM m).length ≤ m.length := by
  unfold leftM
  split
  · exact cut_len _ _
  · exact Nat.le_refl _
theorem open_good {T : Nat} {m : List PairL} (h : Good T m) (hT : T ≤ 60) {i : Nat} (hi : i ≤ 99) : Good (T + 1) (openM m i) := by
  have hp := left_part (h.part (Nat.le_succ T))
  obtain ⟨n1, n2, _⟩ := nextN_in (by omega) h.enc
  have p1 : Part (T + 1) (putK (leftM m) nkey (decS (nextN m + 1))) := hp.put ⟨by show 1 ≤ nkey.size; decide, by show nkey.size ≤ 10; decide, by have := decS_size (show nextN m + 1 ≤ 99 by omega); show (decS (nextN m + 1)).size ≤ 40; omega⟩ (Or.inr (Or.inl ⟨nextN m + 1, rfl, rfl, by omega, by omega⟩))
  have hk := skey_size (show nextN m ≤ 99 by omega)
  have hv := sval_size (s := ⟨nextN m, 0, i, ⟨#[]⟩⟩) (by show 0 ≤ 99; omega) hi
  have hz : (⟨#[]⟩ : ByteArray).size = 0 := rfl
  have p2 : Part (T + 1) (openM m i) := p1.put ⟨by show 1 ≤ (skey _).size; omega, by show (skey _).size ≤ 10; omega, by show (sval _).size ≤ 40; simp only [hz] at hv; omega⟩ (Or.inr (Or.inr ⟨⟨nextN m, 0, i, ⟨#[]⟩⟩, rfl, rfl, by show nextN m ≤ _; omega, by show 0 ≤ _; omega, hi, by show (⟨#[]⟩ : ByteArray).size ≤ 9; omega⟩))
  refine ⟨p2.ok, p2.asc, ?_, p2.enc, ?_⟩
  · unfold openM
    have a := put_len (putK (leftM m) nkey (decS (nextN m + 1))) (skey (nextN m)) (sval ⟨nextN m, 0, i, ⟨#[]⟩⟩)
    have b := put_len (leftM m) nkey (decS (nextN m + 1))
    have c := left_len m
    have d := h.len
    omega
  · unfold openM
    rw [sess_len_put]
    have a := sess_one_le ⟨skey (nextN m), sval ⟨nextN m, 0, i, ⟨#[]⟩⟩⟩
    have b := sess_cut_le (putK (leftM m) nkey (decS (nextN m + 1))) (skey (nextN m))
    have c := sess_len_put (leftM m) nkey (decS (nextN m + 1))
    have d : (sess [(⟨nkey, decS (nextN m + 1)⟩ : PairL)]).length = 0 := by unfold sess; rw [List.filterMap_cons_none parse_n]; rfl
    have e := sess_cut_le (leftM m) nkey
    have f := left_few (by omega) (h.part (Nat.le_refl T)) h.few
    omega
theorem opM_cases (m : List PairL) (c : CmdL) : opM m c = m ∨ opM m c = putK m (kkey c.key) c.val ∨ opM m c = cutK m (kkey c.key) := by
  unfold opM opC
  split
  · exact Or.inl rfl
  · split
    · exact Or.inr (Or.inl rfl)
    · split
      · split
        · exact Or.inr (Or.inr rfl)
        · exact Or.inl rfl
      · split
        · exact Or.inr (Or.inl rfl)
        · exact Or.inl rfl
theorem opM_part {T : Nat} {m : List PairL} (h : Part T m) {c : CmdL} (hk : c.key.size ≤ 9) (hv : c.val.size ≤ 5) : Part T (opM m c) := by
  have e := kkey_size c.key
  rcases opM_cases m c with x | x | x
  · rw [x]; exact h
  · rw [x]; exact h.put ⟨by show 1 ≤ (kkey _).size; omega, by show (kkey _).size ≤ 10; omega, by show c.val.size ≤ 40; omega⟩ (Or.inl ⟨c.key, rfl, hk, hv⟩)
  · rw [x]; exact h.cut _
theorem opM_len (m : List PairL) (c : CmdL) : (opM m c).length ≤ m.length + 1 := by
  rcases opM_cases m c with x | x | x
  · rw [x]; omega
  · rw [x]; exact put_len _ _ _
  · rw [x]; have := cut_len m (kkey c.key); omega
theorem opM_few (m : List PairL) (c : CmdL) : (sess (opM m c)).length ≤ (sess m).length := by
  rcases opM_cases m c with x | x | x
  · rw [x]; exact Nat.le_refl _
  · rw [x, sess_len_put]
    have d : (sess [(⟨kkey c.key, c.val⟩ : PairL)]).length = 0 := by unfold sess; rw [List.filterMap_cons_none parse_k]; rfl
    have := sess_cut_le m (kkey c.key)
    omega
  · rw [x]; exact sess_cut_le _ _
/-- A session is not touched by a client's key. -/
theorem opM_mem {m : List PairL} {c : CmdL} {p : PairL} (hp : p ∈ m) (hk : p.key ≠ kkey c.key) : p ∈ opM m c := by
  rcases opM_cases m c with x | x | x
  · rw [x]; exact hp
  · rw [x]; exact mem_put.2 (Or.inl ⟨hp, hk⟩)
  · rw [x]; exact mem_cut.2 ⟨hp, hk⟩
theorem done_good {T : Nat} {m : List PairL} (h : Good T m) (hT : T ≤ 60) {i : Nat} (hi : i ≤ 99) {c : CmdL} (hok : Cmds.okC c = true) (hv : c.val.size ≤ 5) {s : Ses} (hs : findS m c.ses = some s) (hq : c.seq = (s.seq : Int) + 1) : Good (T + 1) (doneM m i c) := by
  obtain ⟨f1, f2⟩ := find_mem hs
  obtain ⟨g1, g2, g3, g4, g5⟩ := mem_sess (by omega) h.enc f1
  have F := Cmds.fits hok
  have hp := opM_part (h.part (Nat.le_succ T)) F.key hv
  have hid : c.ses.toNat = s.id := by omega
  have hsq : c.seq.toNat = s.seq + 1 := by omega
  have hr := opR_size h.enc c
  have hk := skey_size (show c.ses.toNat ≤ 99 by omega)
  have hvv := sval_size (s := ⟨c.ses.toNat, c.seq.toNat, i, opR m c⟩) (by show c.seq.toNat ≤ 99; omega) hi
  have p2 : Part (T + 1) (doneM m i c) := hp.put ⟨by show 1 ≤ (skey _).size; omega, by show (skey _).size ≤ 10; omega, by show (sval _).size ≤ 40; simp only at hvv; omega⟩ (Or.inr (Or.inr ⟨⟨c.ses.toNat, c.seq.toNat, i, opR m c⟩, rfl, rfl, by show c.ses.toNat ≤ _; omega, by show c.seq.toNat ≤ _; omega, hi, hr⟩))
  refine ⟨p2.ok, p2.asc, ?_, p2.enc, ?_⟩
  · unfold doneM
    have a := put_len (opM m c) (skey c.ses.toNat) (sval ⟨c.ses.toNat, c.seq.toNat, i, opR m c⟩)
    have b := opM_len m c
    have d := h.len
    omega
  · unfold doneM
    rw [sess_len_put, hid]
    have a := sess_one_le ⟨skey s.id, sval ⟨s.id, c.seq.toNat, i, opR m c⟩⟩
    have b : s ∈ sess (opM m c) := sess_mem ⟨by omega, by omega, by omega⟩ (opM_mem g1 (fun e => k_ne_s c.key s.id e.symm))
    have d := sess_cut_lt (by omega) hp.enc b
    have e := opM_few m c
    have f := h.few
    omega
theorem act_good {T : Nat} {m : List PairL} (h : Good T m) (hT : T ≤ 60) {i : Nat} (hi : i ≤ 99) {c : CmdL} (hok : Cmds.okC c = true) (hv : c.val.size ≤ 5) : Good (T + 1) (act m i c).1 := by
  have hm : Good (T + 1) m := ⟨h.ok, h.asc, by have := h.len; omega, fun p hp => (h.enc p hp).mono (Nat.le_succ T), h.few⟩
  unfold act
  split
  · exact open_good h hT hi
  · split
    · exact hm
    · rename_i s hs
      split
      · exact hm
      · split
        · exact hm
        · split
          · exact hm
          · exact done_good h hT hi hok hv hs (by omega)
end Acts
end Go.Proofs.YtpedpdgkbmpfjaaDoor
