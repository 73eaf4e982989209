/- Plain facts on disks as ascending lists: what is put, dropped, found; raw writes done to a table of files. -/
import Derived.Test.YthcfnofhdbjemaaGreatDoorMathRaw
namespace Go.Proofs.YthcfnofhdbjemaaGreatDoor.Disks
open Go
abbrev key (s : ByteArray) : List UInt8 := s.data.toList
theorem toList_key (s : ByteArray) : s.toList = key s := ByteArray.toList_eq s
theorem key_inj {a b : ByteArray} (h : key a = key b) : a = b := by
  cases a; cases b
  simp only [ByteArray.mk.injEq]
  exact Array.ext' h
theorem less_eq : ∀ (x y : List UInt8), Op.bytesLess x y = decide (x < y)
  | [], [] => by simp [Op.bytesLess]
  | _ :: _, [] => by simp [Op.bytesLess]
  | [], _ :: _ => by simp [Op.bytesLess]
  | a :: x, b :: y => by
    rw [Op.bytesLess, less_eq x y]
    simp only [List.cons_lt_cons_iff]
    by_cases h1 : a < b <;> by_cases h2 : a = b <;> by_cases h3 : x < y <;> simp [h1, h2, h3]
theorem lt_iff (a b : ByteArray) : lt a b = true ↔ key a < key b := by
  unfold lt; rw [less_eq, toList_key, toList_key, decide_eq_true_iff]
theorem lt_irrefl (a : ByteArray) : lt a a = false := by
  cases h : lt a a
  · rfl
  · exact absurd ((lt_iff a a).1 h) (List.lt_irrefl _)
theorem lt_trans {a b c : ByteArray} (h1 : lt a b = true) (h2 : lt b c = true) : lt a c = true :=
  (lt_iff a c).2 (List.lt_trans ((lt_iff a b).1 h1) ((lt_iff b c).1 h2))
theorem lt_total {a b : ByteArray} (h1 : lt a b = false) (h2 : lt b a = false) : a = b := by
  have e1 : ¬ key a < key b := fun h => by rw [(lt_iff a b).2 h] at h1; cases h1
  have e2 : ¬ key b < key a := fun h => by rw [(lt_iff b a).2 h] at h2; cases h2
  exact key_inj (List.le_antisymm (List.not_lt.1 e2) (List.not_lt.1 e1))
theorem nameIs_iff (n : ByteArray) (f : FileL) : nameIs n f = true ↔ f.1 = n := by
  unfold nameIs; rw [toList_key, toList_key, beq_iff_eq]
  exact ⟨key_inj, fun h => by rw [h]⟩
theorem nameIs_false (n : ByteArray) (f : FileL) : nameIs n f = false ↔ f.1 ≠ n := by
  rw [← Bool.not_eq_true, nameIs_iff]
theorem gt_iff (a b : ByteArray) : gt a b = true ↔ lt b a = true := by
  unfold gt
  rw [toList_key, toList_key]
  by_cases h : lt a b = true
  · have : Op.bytesLess (key a) (key b) = true := by unfold lt at h; rwa [toList_key, toList_key] at h
    rw [this]
    simp only [Bool.true_or, Bool.not_true, Bool.false_eq_true, false_iff, Bool.not_eq_true]
    cases h2 : lt b a
    · rfl
    · have := lt_trans h h2; rw [lt_irrefl] at this; cases this
  · have hf : lt a b = false := by simpa using h
    have : Op.bytesLess (key a) (key b) = false := by unfold lt at hf; rwa [toList_key, toList_key] at hf
    rw [this]
    simp only [Bool.false_or, Bool.not_eq_true']
    constructor
    · intro h2
      cases h3 : lt b a
      · exact absurd (lt_total hf h3) (fun e => by rw [e] at h2; simp at h2)
      · rfl
    · intro h2
      cases h3 : (key a == key b)
      · rfl
      · have := key_inj (beq_iff_eq.1 h3)
        rw [this, lt_irrefl] at h2; cases h2
/-- Names that ascend. -/
def asc (l : List FileL) : Prop := l.Pairwise fun e f => lt e.1 f.1 = true
theorem ok_far {l : List FileL} (h : ∀ j, j < l.length → okAt l j) : ∀ (d i : Nat) (hi : i < l.length) (hj : i + d + 1 < l.length), lt l[i].1 l[i + d + 1].1 = true
  | 0, i, hi, hj => by
    obtain ⟨_, _, h2⟩ := h (i + 0 + 1) hj
    obtain ⟨_, h3⟩ := h2 (by omega)
    exact h3
  | d + 1, i, hi, hj => by
    have h1 := ok_far h d i hi (by omega)
    obtain ⟨_, _, h2⟩ := h (i + (d + 1) + 1) hj
    obtain ⟨_, h3⟩ := h2 (by omega)
    exact lt_trans h1 h3
theorem ok_iff (l : List FileL) : ok l ↔ l.length ≤ 30 ∧ (∀ f ∈ l, fileOk f) ∧ asc l := by
  constructor
  · rintro ⟨h1, h2⟩
    refine ⟨h1, fun f hf => ?_, List.pairwise_iff_getElem.2 fun i j hi hj hij => ?_⟩
    · obtain ⟨j, hj, rfl⟩ := List.mem_iff_getElem.1 hf
      exact (h2 j hj).2.1
    · obtain ⟨d, rfl⟩ : ∃ d, j = i + d + 1 := ⟨j - i - 1, by omega⟩
      exact ok_far h2 d i hi hj
  · rintro ⟨h1, h2, h3⟩
    refine ⟨h1, fun j hj => ⟨hj, h2 _ (List.getElem_mem _), fun hp => ⟨by omega, ?_⟩⟩⟩
    exact List.pairwise_iff_getElem.1 h3 (j - 1) j (by omega) hj (by omega)
theorem asc_inj {l : List FileL} (h : asc l) {e f : FileL} (he : e ∈ l) (hf : f ∈ l) (hn : e.1 = f.1) : e = f := by
  obtain ⟨i, hi, rfl⟩ := List.mem_iff_getElem.1 he
  obtain ⟨j, hj, rfl⟩ := List.mem_iff_getElem.1 hf
  rcases Nat.lt_trichotomy i j with q | q | q
  · have := List.pairwise_iff_getElem.1 h i j hi hj q; rw [hn, lt_irrefl] at this; cases this
  · subst q; rfl
  · have := List.pairwise_iff_getElem.1 h j i hj hi q; rw [hn, lt_irrefl] at this; cases this
theorem put_mem_iff {l : List FileL} {f e : FileL} : e ∈ put l f ↔ e = f ∨ (e ∈ l ∧ e.1 ≠ f.1) := by
  unfold put
  simp only [List.mem_append, List.mem_filter, List.mem_singleton, gt_iff]
  constructor
  · rintro ((⟨h1, h2⟩ | h) | ⟨h1, h2⟩)
    · exact Or.inr ⟨h1, fun e => by rw [e, lt_irrefl] at h2; cases h2⟩
    · exact Or.inl h
    · exact Or.inr ⟨h1, fun e => by rw [e, lt_irrefl] at h2; cases h2⟩
  · rintro (h | ⟨h1, h2⟩)
    · exact Or.inl (Or.inr h)
    · cases h3 : lt e.1 f.1
      · cases h4 : lt f.1 e.1
        · exact absurd (lt_total h3 h4) h2
        · exact Or.inr ⟨h1, rfl⟩
      · exact Or.inl (Or.inl ⟨h1, rfl⟩)
theorem put_asc {l : List FileL} (h : asc l) (f : FileL) : asc (put l f) := by
  unfold put asc
  rw [List.pairwise_append, List.pairwise_append]
  refine ⟨⟨h.filter _, by simp, fun a ha b hb => ?_⟩, h.filter _, fun a ha b hb => ?_⟩
  · rw [List.mem_singleton] at hb; subst hb
    exact (List.mem_filter.1 ha).2
  · have hb2 := (gt_iff _ _).1 (List.mem_filter.1 hb).2
    rcases List.mem_append.1 ha with ha | ha
    · exact lt_trans (List.mem_filter.1 ha).2 hb2
    · rw [List.mem_singleton] at ha; subst ha; exact hb2
theorem drop_mem_iff {l : List FileL} {n : ByteArray} {e : FileL} : e ∈ drop l n ↔ e ∈ l ∧ e.1 ≠ n := by
  unfold drop
  rw [List.mem_filter, Bool.not_eq_true', nameIs_false]
theorem drop_asc {l : List FileL} (h : asc l) (n : ByteArray) : asc (drop l n) := h.filter _
theorem asc_nodup {l : List FileL} (h : asc l) : l.Nodup := List.Pairwise.imp (fun {a b} hab e => by rw [e, lt_irrefl] at hab; cases hab) h
theorem asc_keys {l : List FileL} (h : asc l) : (l.map fun f => key f.1).Nodup := List.pairwise_map.2 (List.Pairwise.imp (fun {a b} hab e => by rw [key_inj e, lt_irrefl] at hab; cases hab) h)
theorem asc_ext {l m : List FileL} (hl : asc l) (hm : asc m) (h : ∀ e, e ∈ l ↔ e ∈ m) : l = m :=
  List.Perm.eq_of_pairwise (le := fun (e f : FileL) => lt e.1 f.1 = true) (fun a b _ _ h1 h2 => by have := lt_trans h1 h2; rw [lt_irrefl] at this; cases this) hl hm
    ((List.perm_ext_iff_of_nodup (asc_nodup hl) (asc_nodup hm)).2 h)
theorem any_name {l : List FileL} {n : ByteArray} : l.any (nameIs n) = true ↔ ∃ f ∈ l, f.1 = n := by
  rw [List.any_eq_true]
  exact ⟨fun ⟨f, h1, h2⟩ => ⟨f, h1, (nameIs_iff n f).1 h2⟩, fun ⟨f, h1, h2⟩ => ⟨f, h1, (nameIs_iff n f).2 h2⟩⟩
/-- What is found under a name. -/
def look (l : List FileL) (n : ByteArray) : FileL × Bool := match l.find? (nameIs n) with
  | some f => (f, true)
  | none => ((⟨#[]⟩, ⟨#[]⟩), false)
theorem look_text (l : List FileL) (n : ByteArray) : (look l n).1.2 = textOf l n := by
  unfold look textOf
  cases l.find? (nameIs n) <;> rfl
theorem look_any (l : List FileL) (n : ByteArray) : (look l n).2 = l.any (nameIs n) := by
  unfold look
  cases h : l.find? (nameIs n) with
  | none =>
    simp only
    symm
    rw [← Bool.not_eq_true, List.any_eq_true]
    rintro ⟨f, hf, h2⟩
    exact List.find?_eq_none.1 h f hf h2
  | some f =>
    simp only
    symm
    rw [List.any_eq_true]
    exact ⟨f, List.mem_of_find?_eq_some h, List.find?_some h⟩
theorem look_some {l : List FileL} {n : ByteArray} (h : (look l n).2 = true) : (look l n).1 ∈ l ∧ (look l n).1.1 = n := by
  unfold look at *
  cases h2 : l.find? (nameIs n) with
  | none => rw [h2] at h; cases h
  | some f =>
    exact ⟨List.mem_of_find?_eq_some h2, (nameIs_iff n f).1 (List.find?_some h2)⟩
theorem look_none {l : List FileL} {n : ByteArray} (h : (look l n).2 = false) : look l n = ((⟨#[]⟩, ⟨#[]⟩), false) := by
  unfold look at *
  cases h2 : l.find? (nameIs n) with
  | none => rfl
  | some f => rw [h2] at h; cases h
theorem look_at {l : List FileL} (h : asc l) {j : Nat} (hj : j < l.length) : look l l[j].1 = (l[j], true) := by
  have h1 : (look l l[j].1).2 = true := by rw [look_any, any_name]; exact ⟨_, List.getElem_mem _, rfl⟩
  obtain ⟨h2, h3⟩ := look_some h1
  have h4 := asc_inj h h2 (List.getElem_mem hj) h3
  exact Prod.ext h4 h1
theorem len_split (l : List FileL) (n : ByteArray) : (l.filter (fun e => lt e.1 n)).length + (l.filter (nameIs n)).length + (l.filter (fun e => gt e.1 n)).length = l.length := by
  induction l with
  | nil => rfl
  | cons e r ih =>
    simp only [List.filter_cons]
    cases h1 : lt e.1 n
    · cases h2 : lt n e.1
      · have h3 := lt_total h1 h2
        have h4 : nameIs n e = true := (nameIs_iff n e).2 h3
        have h5 : gt e.1 n = false := by cases h : gt e.1 n; rfl; rw [(gt_iff _ _).1 h] at h2; cases h2
        simp only [h4, h5, if_true, Bool.false_eq_true, if_false, List.length_cons]; omega
      · have h4 : nameIs n e = false := (nameIs_false n e).2 (fun q => by rw [q, lt_irrefl] at h2; cases h2)
        have h5 : gt e.1 n = true := (gt_iff _ _).2 h2
        simp only [h4, h5, if_true, Bool.false_eq_true, if_false, List.length_cons]; omega
    · have h4 : nameIs n e = false := (nameIs_false n e).2 (fun q => by rw [q, lt_irrefl] at h1; cases h1)
      have h5 : gt e.1 n = false := by
        cases h : gt e.1 n
        · rfl
        · have := lt_trans h1 ((gt_iff _ _).1 h); rw [lt_irrefl] at this; cases this
      simp only [h4, h5, if_true, Bool.false_eq_true, if_false, List.length_cons]; omega
theorem len_named {l : List FileL} (h : asc l) (n : ByteArray) : (l.filter (nameIs n)).length = if l.any (nameIs n) then 1 else 0 := by
  induction l with
  | nil => rfl
  | cons e r ih =>
    obtain ⟨h1, h2⟩ := List.pairwise_cons.1 h
    rw [List.filter_cons, List.any_cons]
    cases h3 : nameIs n e
    · simp only [Bool.false_eq_true, if_false, Bool.false_or]; exact ih h2
    · have h4 : r.any (nameIs n) = false := by
        cases h5 : r.any (nameIs n)
        · rfl
        · obtain ⟨f, hf, h6⟩ := any_name.1 h5
          have := h1 f hf
          rw [(nameIs_iff n e).1 h3, h6, lt_irrefl] at this; cases this
      have := ih h2
      rw [h4] at this
      simp only [if_true, Bool.true_or, List.length_cons, this]
      rfl
theorem put_length {l : List FileL} (h : asc l) (f : FileL) : (put l f).length = if l.any (nameIs f.1) then l.length else l.length + 1 := by
  have h1 := len_split l f.1
  have h2 := len_named h f.1
  unfold put
  rw [List.length_append, List.length_append, List.length_singleton]
  split at h2 <;> rename_i h3 <;> simp only [h3, if_true, Bool.false_eq_true, if_false] <;> omega
theorem drop_length {l : List FileL} (h : asc l) {n : ByteArray} (hn : l.any (nameIs n) = true) : (drop l n).length + 1 = l.length := by
  have h2 := len_named h n
  rw [hn] at h2
  simp only [if_true] at h2
  have : ∀ l : List FileL, (l.filter (nameIs n)).length + (l.filter fun f => !nameIs n f).length = l.length := by
    intro l
    induction l with
    | nil => rfl
    | cons e r ih =>
      simp only [List.filter_cons]
      cases nameIs n e <;> simp only [Bool.not_true, Bool.not_false, if_true, Bool.false_eq_true, if_false, List.length_cons] <;> omega
  have h3 := this l
  unfold drop
  omega
theorem take_put {l : List FileL} (h : asc l) {k : Nat} (hk : k < l.length) : put (l.take k) l[k] = l.take (k + 1) := by
  refine asc_ext (put_asc (List.Pairwise.take h) _) (List.Pairwise.take h) fun e => ?_
  rw [put_mem_iff, List.take_succ_eq_append_getElem hk, List.mem_append, List.mem_singleton]
  constructor
  · rintro (q | ⟨q, _⟩)
    · exact Or.inr q
    · exact Or.inl q
  · rintro (q | q)
    · refine Or.inr ⟨q, fun e1 => ?_⟩
      obtain ⟨i, hi, rfl⟩ := List.mem_iff_getElem.1 q
      have hi' : i < k := by rw [List.length_take] at hi; omega
      have := List.pairwise_iff_getElem.1 h i k (by omega) hk hi'
      rw [List.getElem_take] at e1
      rw [e1, lt_irrefl] at this; cases this
    · exact Or.inl q
/-- Raw writes as a table does them. -/
def tput (l : List FileL) (f : FileL) : Option (List FileL) := if (fileOkB f && (l.any (nameIs f.1) || !(l.length == 30))) = true then some (put l f) else none
def tmove (l : List FileL) (n dst : ByteArray) : Option (List FileL) := if (l.any (nameIs n) && fileOkB (dst, textOf l n)) = true then some (put (drop l n) (dst, textOf l n)) else none
def tdrop (l : List FileL) (n : ByteArray) : Option (List FileL) := if l.any (nameIs n) = true then some (drop l n) else none
def tdo (l : List FileL) (r : RawL) : Option (List FileL) :=
  if r.kind = 1 then tput l (r.name, r.text) else if r.kind = 2 then tput l (r.name, textOf l r.name ++ r.text)
  else if r.kind = 3 then tmove l r.name r.dst else if r.kind = 4 then tdrop l r.name else none
theorem put_ok_iff {l : List FileL} (h : ok l) (f : FileL) : ok (put l f) ↔ fileOk f ∧ (l.any (nameIs f.1) = true ∨ l.length ≠ 30) := by
  obtain ⟨h1, h2, h3⟩ := (ok_iff l).1 h
  rw [ok_iff, put_length h3]
  constructor
  · rintro ⟨q1, q2, _⟩
    refine ⟨q2 f (put_mem_iff.2 (Or.inl rfl)), ?_⟩
    cases e : l.any (nameIs f.1)
    · rw [e] at q1; simp only [Bool.false_eq_true, if_false] at q1; right; omega
    · exact Or.inl rfl
  · rintro ⟨q1, q2⟩
    refine ⟨?_, fun e he => ?_, put_asc h3 f⟩
    · split
      · exact h1
      · rename_i e; rcases q2 with q2 | q2
        · exact absurd q2 e
        · omega
    · rcases put_mem_iff.1 he with rfl | ⟨he, _⟩
      · exact q1
      · exact h2 e he
theorem tput_is {l : List FileL} (h : ok l) (f : FileL) : tput l f = if okB (put l f) = true then some (put l f) else none := by
  unfold tput
  have e : (fileOkB f && (l.any (nameIs f.1) || !(l.length == 30))) = true ↔ okB (put l f) = true := by
    rw [okB_iff, put_ok_iff h, Bool.and_eq_true, fileOkB_iff, Bool.or_eq_true, Bool.not_eq_true', beq_eq_false_iff_ne]
  by_cases q : okB (put l f) = true
  · rw [if_pos q, if_pos (e.2 q)]
  · rw [if_neg q, if_neg (fun x => q (e.1 x))]
theorem putRaw_low {l : List FileL} (h : ok l) (r : RawL) (hk : 1 ≤ r.kind ∧ r.kind < 3) : putRaw l r = if okB (rawOut l r) = true then some (rawOut l r) else none := by
  by_cases q : okB (rawOut l r) = true
  · rw [if_pos q, putRaw_pos ⟨⟨h, ⟨hk.1, by omega⟩, fun _ => hk.2⟩, (okB_iff _).1 q⟩]
  · rw [if_neg q, putRaw_neg (fun x => q ((okB_iff _).2 x.2))]
theorem drop_ok {l : List FileL} (h : ok l) (n : ByteArray) : ok (drop l n) := by
  obtain ⟨h1, h2, h3⟩ := (ok_iff l).1 h
  refine (ok_iff _).2 ⟨Nat.le_trans (List.length_filter_le _ _) h1, fun f hf => h2 f (drop_mem_iff.1 hf).1, drop_asc h3 n⟩
theorem move_same {l : List FileL} (h : asc l) {n : ByteArray} (hn : l.any (nameIs n) = true) : put (drop l n) (n, textOf l n) = l := by
  have e1 : (look l n).2 = true := by rw [look_any]; exact hn
  obtain ⟨h1, h2⟩ := look_some e1
  have h3 : (look l n).1 = (n, textOf l n) := Prod.ext h2 (look_text l n)
  rw [h3] at h1
  refine asc_ext (put_asc (drop_asc h n) _) h fun e => ?_
  rw [put_mem_iff, drop_mem_iff]
  constructor
  · rintro (rfl | ⟨⟨q, _⟩, _⟩)
    · exact h1
    · exact q
  · intro q
    by_cases he : e.1 = n
    · exact Or.inl (asc_inj h q h1 he)
    · exact Or.inr ⟨⟨q, he⟩, he⟩
theorem drop_any {l : List FileL} {n dst : ByteArray} (h : dst ≠ n) : (drop l n).any (nameIs dst) = l.any (nameIs dst) := by
  rw [Bool.eq_iff_iff, any_name, any_name]
  constructor
  · rintro ⟨f, hf, q⟩; exact ⟨f, (drop_mem_iff.1 hf).1, q⟩
  · rintro ⟨f, hf, q⟩; exact ⟨f, drop_mem_iff.2 ⟨hf, by rw [q]; exact h⟩, q⟩
theorem put_drop_ok {l : List FileL} (h : ok l) {n : ByteArray} (hn : l.any (nameIs n) = true) (f : FileL) : ok (put (drop l n) f) ↔ fileOk f := by
  rw [put_ok_iff (drop_ok h n)]
  have h1 := ((ok_iff l).1 h)
  have h2 := drop_length h1.2.2 hn
  exact ⟨fun q => q.1, fun q => ⟨q, Or.inr (by have := h1.1; omega)⟩⟩
theorem look_ok {l : List FileL} (h : ok l) {n : ByteArray} (hn : l.any (nameIs n) = true) : fileOk (n, textOf l n) := by
  have e1 : (look l n).2 = true := by rw [look_any]; exact hn
  obtain ⟨h1, h2⟩ := look_some e1
  have h3 : (look l n).1 = (n, textOf l n) := Prod.ext h2 (look_text l n)
  rw [h3] at h1
  exact ((ok_iff l).1 h).2.1 _ h1
theorem tdo_is {l : List FileL} (h : ok l) (r : RawL) : tdo l r = putRaw l r := by
  unfold tdo
  by_cases k1 : r.kind = 1
  · rw [if_pos k1, tput_is h, putRaw_low h r (by omega)]
    have : rawOut l r = put l (r.name, r.text) := by unfold rawOut; rw [if_pos k1]
    rw [this]
  · rw [if_neg k1]
    by_cases k2 : r.kind = 2
    · rw [if_pos k2, tput_is h, putRaw_low h r (by omega)]
      have : rawOut l r = put l (r.name, textOf l r.name ++ r.text) := by unfold rawOut; rw [if_neg k1, if_pos k2]
      rw [this]
    · rw [if_neg k2]
      by_cases k3 : r.kind = 3
      · rw [if_pos k3]
        unfold tmove
        cases hn : l.any (nameIs r.name)
        · simp only [Bool.false_and, Bool.false_eq_true, if_false]
          rw [putRaw_neg]
          rintro ⟨⟨_, _, q⟩, _⟩
          have := q (fun j hj => by
            cases e : nameIs r.name l[j]
            · rfl
            · have : l.any (nameIs r.name) = true := List.any_eq_true.2 ⟨_, List.getElem_mem _, e⟩
              rw [hn] at this; cases this)
          omega
        · have hg : good l r := ⟨h, by omega, fun q => absurd q ((any_iff _ _).1 hn)⟩
          simp only [Bool.true_and]
          by_cases hs : r.dst = r.name
          · have ho : rawOut l r = l := by unfold rawOut; rw [if_neg k1, if_neg k2, if_pos k3, if_pos (by rw [hs]; simp)]
            rw [hs, if_pos ((fileOkB_iff _).2 (look_ok h hn)), move_same ((ok_iff l).1 h).2.2 hn, putRaw_pos ⟨hg, by rw [ho]; exact h⟩, ho]
          · have ho : rawOut l r = put (drop l r.name) (r.dst, textOf l r.name) := by
              unfold rawOut
              rw [if_neg k1, if_neg k2, if_pos k3, if_neg]
              rw [toList_key, toList_key, beq_iff_eq]
              exact fun q => hs (key_inj q)
            by_cases hf : fileOk (r.dst, textOf l r.name)
            · rw [if_pos ((fileOkB_iff _).2 hf), putRaw_pos ⟨hg, by rw [ho]; exact (put_drop_ok h hn _).2 hf⟩, ho]
            · rw [if_neg (fun q => hf ((fileOkB_iff _).1 q)), putRaw_neg (fun q => hf ((put_drop_ok h hn _).1 (by rw [← ho]; exact q.2)))]
      · rw [if_neg k3]
        by_cases k4 : r.kind = 4
        · rw [if_pos k4]
          unfold tdrop
          have ho : rawOut l r = drop l r.name := by unfold rawOut; rw [if_neg k1, if_neg k2, if_neg k3]
          cases hn : l.any (nameIs r.name)
          · simp only [Bool.false_eq_true, if_false]
            rw [putRaw_neg]
            rintro ⟨⟨_, _, q⟩, _⟩
            have := q (fun j hj => by
              cases e : nameIs r.name l[j]
              · rfl
              · have : l.any (nameIs r.name) = true := List.any_eq_true.2 ⟨_, List.getElem_mem _, e⟩
                rw [hn] at this; cases this)
            omega
          · rw [if_pos rfl, putRaw_pos ⟨⟨h, by omega, fun q => absurd q ((any_iff _ _).1 hn)⟩, by rw [ho]; exact drop_ok h _⟩, ho]
        · rw [if_neg k4, putRaw_neg]
          rintro ⟨⟨_, q, _⟩, _⟩
          omega
end Go.Proofs.YthcfnofhdbjemaaGreatDoor.Disks
