/- A command's text with more bytes behind it; no program is named here. -/
import Derived.Test.YtlmjhobijgmolaaMathCmd
namespace Go.Proofs.Ytlmjhobijgmolaa
set_option linter.unusedVariables false
set_option linter.unusedSimpArgs false
namespace Cmds
open Batches (by_ short rdShort cut cut_app cut_all rd_cut rdShort_cut rd_at rdShort_at by_inj)
theorem reads_more {t : ByteArray} {c : CmdL} {r : List UInt8} (h1 : by_ t = text c ++ r) (h2 : okC c = true) : ∃ a b d e, Reads t c a b d e (text c).length := by
  have f := fits h2
  have := f.op; have := f.ses; have := f.seq; have := f.key; have := f.val; have := f.old
  have hl : (by_ t).length = t.size := Words.size_list t
  have p1 : by_ t = [bt c.op] ++ (Words.var c.ses.toNat ++ (Words.var c.seq.toNat ++ (short c.key ++ (short c.val ++ (short c.old ++ r))))) := by rw [h1]; simp [text, List.append_assoc]
  have p2 : by_ t = ([bt c.op] ++ Words.var c.ses.toNat) ++ (Words.var c.seq.toNat ++ (short c.key ++ (short c.val ++ (short c.old ++ r)))) := by rw [h1]; simp [text, List.append_assoc]
  have p3 : by_ t = ([bt c.op] ++ Words.var c.ses.toNat ++ Words.var c.seq.toNat) ++ (short c.key ++ (short c.val ++ (short c.old ++ r))) := by rw [h1]; simp [text, List.append_assoc]
  have p4 : by_ t = ([bt c.op] ++ Words.var c.ses.toNat ++ Words.var c.seq.toNat ++ short c.key) ++ (short c.val ++ (short c.old ++ r)) := by rw [h1]; simp [text, List.append_assoc]
  have p5 : by_ t = ([bt c.op] ++ Words.var c.ses.toNat ++ Words.var c.seq.toNat ++ short c.key ++ short c.val) ++ (short c.old ++ r) := by rw [h1]; simp [text, List.append_assoc]
  have hs : 0 < t.size := by rw [← hl, p1]; simp
  refine ⟨_, _, _, _, ⟨hs, ?_⟩, ⟨rd_at (by omega) p1, by omega⟩, ⟨rd_at (by omega) p2, by omega⟩, rdShort_at (by omega) p3, rdShort_at (by omega) p4, rdShort_at (by omega) p5⟩
  have : (by_ t)[0]'(by omega) = bt c.op := by simp only [p1]; rfl
  have e0 : (by_ t)[0]'(by omega) = t[0]'hs := by simp [by_]; rfl
  rw [← e0, this]
  unfold bt
  rw [Words.ofNat_toNat _ (by omega)]
  omega
theorem not_more {t : ByteArray} {c u : CmdL} {x : UInt8} (h1 : by_ t = text c ++ [x]) (h2 : okC c = true) : ¬ Got t u := fun hu => by
  obtain ⟨_, _, _, _, r1⟩ := reads_more h1 h2
  obtain ⟨_, _, _, _, r2⟩ := got_reads hu
  have e := (reads_one r1 r2).2
  have hl : (by_ t).length = t.size := Words.size_list t
  rw [h1, List.length_append] at hl
  simp at hl
  omega
end Cmds
end Go.Proofs.Ytlmjhobijgmolaa
