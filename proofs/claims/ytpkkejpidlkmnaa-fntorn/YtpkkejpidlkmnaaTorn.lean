/- Plain facts on raw writes that are torn. -/
import Derived.Test.YtpkkejpidlkmnaaCut
import Derived.Test.YtpkkejpidlkmnaaMathTab
namespace Go.Proofs.Ytpkkejpidlkmnaa.Disks
open Go
set_option linter.unusedVariables false
theorem look_mem {l : List FileL} (h : asc l) {f : FileL} (hf : f ∈ l) : look l f.1 = (f, true) := by
  obtain ⟨j, hj, rfl⟩ := List.mem_iff_getElem.1 hf
  exact look_at h hj
theorem ext_app_left (a b : ByteArray) : (a ++ b).extract 0 a.size = a := by
  apply ByteArray.ext
  rw [ByteArray.data_extract, ByteArray.data_append]
  apply Array.ext'
  rw [show a.size = a.data.size from rfl]
  simp
  exact List.take_of_length_le (by rw [Array.length_toList]; exact Nat.le_refl _)
theorem ext_app_part (a b : ByteArray) (pt : Nat) (h : pt ≤ b.size) : (a ++ b).extract 0 (a ++ b.extract 0 pt).size = a ++ b.extract 0 pt := by
  apply ByteArray.ext
  rw [ByteArray.data_extract, ByteArray.data_append, ByteArray.data_append, ByteArray.data_extract, ByteArray.size_append, ByteArray.size_extract]
  apply Array.ext'
  have e : min pt b.size - 0 = pt := by omega
  rw [e]
  rw [show a.size = a.data.size from rfl]
  simp
  exact List.take_of_length_le (by rw [Array.length_toList]; exact Nat.le_add_right _ _)
/-- What a raw write that puts or adds leaves, whole and torn. -/
theorem torn_of {B A : List FileL} {r : RawL} {pt : Nat} {P Y : ByteArray} (hB : ok B) (hp : putRaw B r = some A) (hk : r.kind ≤ 2) (hY : rawOut B r = put B (r.name, Y)) (hP : rawOut B (begin r pt) = put B (r.name, P)) (hs : P.size ≤ Y.size) :
    putRaw B (begin r pt) = some (put B (r.name, P)) ∧ ok (put B (r.name, P)) ∧ look (put B (r.name, P)) r.name = ((r.name, P), true) ∧ look A r.name = ((r.name, Y), true) ∧ Y.size ≤ 20000 ∧ ∀ f ∈ A, f.1 ≠ r.name → look (put B (r.name, P)) f.1 = (f, true) := by
  obtain ⟨hg, hok, rfl⟩ := putRaw_some hp
  rw [hY] at hok ⊢
  obtain ⟨hf, hl⟩ := (put_ok_iff hB _).1 hok
  have hasc := ((ok_iff B).1 hB).2.2
  have hokP : ok (put B (r.name, P)) := (put_ok_iff hB _).2 ⟨⟨hf.1, hf.2.1, by have := hf.2.2; simp only at this ⊢; omega⟩, hl⟩
  refine ⟨?_, hokP, look_mem (f := (r.name, P)) (put_asc hasc _) (put_mem_iff.2 (Or.inl rfl)), look_mem (f := (r.name, Y)) (put_asc hasc _) (put_mem_iff.2 (Or.inl rfl)), hf.2.2, fun f hfA hne => ?_⟩
  · rw [putRaw_pos (l := B) (r := begin r pt) ⟨⟨hg.1, hg.2.1, hg.2.2⟩, by rw [hP]; exact hokP⟩, hP]
  · rcases put_mem_iff.1 hfA with h | h
    · rw [h] at hne; exact absurd rfl hne
    · exact look_mem (put_asc hasc _) (put_mem_iff.2 (Or.inr h))
theorem torn {B A : List FileL} {r : RawL} {pt : Nat} (hB : ok B) (hp : putRaw B r = some A) (hk : r.kind ≤ 2) (h1 : 1 ≤ pt) (h2 : pt ≤ r.text.size) :
    ∃ (P Y : ByteArray) (C : List FileL), putRaw B (begin r pt) = some C ∧ ok C ∧ look C r.name = ((r.name, P), true) ∧ look A r.name = ((r.name, Y), true) ∧ P.size ≤ Y.size ∧ Y.extract 0 P.size = P ∧ 0 < P.size ∧ Y.size ≤ 20000 ∧
      (r.kind = 2 → (textOf B r.name).size ≤ P.size ∧ P.extract 0 (textOf B r.name).size = textOf B r.name) ∧ ∀ f ∈ A, f.1 ≠ r.name → look C f.1 = (f, true) := by
  have hg := (putRaw_some hp).1.2.1.1
  have hsz : (r.text.extract 0 pt).size = pt := by rw [ByteArray.size_extract]; omega
  by_cases k1 : r.kind = 1
  · have hY : rawOut B r = put B (r.name, r.text) := by unfold rawOut; rw [if_pos k1]
    have hP : rawOut B (begin r pt) = put B (r.name, r.text.extract 0 pt) := by unfold rawOut; rw [if_pos (show (begin r pt).kind = 1 from k1)]; rfl
    obtain ⟨q1, q2, q3, q4, q5, q6⟩ := torn_of hB hp hk hY hP (by omega)
    refine ⟨_, _, _, q1, q2, q3, q4, by omega, ?_, by omega, q5, fun h => by omega, q6⟩
    rw [hsz]
  · have k2 : r.kind = 2 := by omega
    have hY : rawOut B r = put B (r.name, textOf B r.name ++ r.text) := by unfold rawOut; rw [if_neg k1, if_pos k2]
    have hP : rawOut B (begin r pt) = put B (r.name, textOf B r.name ++ r.text.extract 0 pt) := by unfold rawOut; rw [if_neg (show ¬ (begin r pt).kind = 1 from k1), if_pos (show (begin r pt).kind = 2 from k2)]; rfl
    obtain ⟨q1, q2, q3, q4, q5, q6⟩ := torn_of hB hp hk hY hP (by rw [ByteArray.size_append, ByteArray.size_append]; omega)
    exact ⟨_, _, _, q1, q2, q3, q4, by rw [ByteArray.size_append, ByteArray.size_append]; omega, ext_app_part _ _ _ h2, by rw [ByteArray.size_append]; omega, q5, fun _ => ⟨by rw [ByteArray.size_append]; omega, ext_app_left _ _⟩, q6⟩
end Go.Proofs.Ytpkkejpidlkmnaa.Disks
