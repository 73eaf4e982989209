/- The program's others, by the library's DeleteFunc (its contract laid at this program by the given library's theorem), walked. Made by program. -/
import Derived.Shelf.SlGeneric
import Derived.Shelf.SlicesE.DeleteFunc
import Derived.Ground.SlgfProg
import Derived.Sort.OwnSortedInts
import Derived.Test.YtiifjhalkihlbaaConfOfI
import Derived.Test.YtiifjhalkihlbaaOthersS
import Derived.Test.YtiifjhalkihlbaaPeerI
namespace Go.Proofs
open Go.Shelf
def Try.l90_ren : Go.Shelf.Ren := ⟨fun | 10 => 90 | 6 => 95 | n => n, fun | 22 => 22 | 23 => 3 | 25 => 63 | 3 => 3 | 4 => 4 | 0 => 0 | n => n, fun | n => n⟩
theorem Try.l90 : Go.Proofs.SlLaysH.n10 Try.prog Try.l90_ren := {
  mixed := by kernel_rfl
  f6 := ⟨Try.f95.name, by decide, Try.func95.trans (congrArg some (by kernel_rfl))⟩
  f10 := ⟨Try.f90.name, by decide, Try.func90.trans (congrArg some (by kernel_rfl))⟩
  t0 := Try.underlying0
  a0 := Try.isAgg0
  z0 := Try.sizeOf0
  v0 := Try.zeroValue0
  t3 := Try.underlying3
  a3 := Try.isAgg3
  z3 := Try.sizeOf3
  v3 := Try.zeroValue3
  t4 := Try.underlying4
  a4 := Try.isAgg4
  z4 := Try.sizeOf4
  v4 := Try.zeroValue4
  t22 := Try.underlying22
  a22 := Try.isAgg22
  z22 := Try.sizeOf22
  v22 := Try.zeroValue22
  a23 := Try.isAgg3
  z23 := Try.sizeOf3
  t25 := Try.underlying63
  a25 := Try.isAgg63
  z25 := Try.sizeOf63
  v25 := Try.zeroValue63 }
end Go.Proofs
namespace Go.Proofs.Ytiifjhalkihlbaa
open Go.RowKit Go.Lib
open Ents (okB confOf)
open Logs (okL)
set_option linter.unusedVariables false
set_option linter.unusedSimpArgs false
theorem conf_right {t : ByteArray} {l : List Int} (h : RCIs t l true) : Mans.confOk l = true := by
  rcases h with ⟨h, _⟩ | ⟨_, _, h⟩
  · exact (Ents.readC_iff.1 h).1
  · cases h
theorem confL_ok {c : List Int} (hc : Mans.confOk c = true) : ∀ {l : List EntL}, (∀ e ∈ l, okB e = true) → Mans.confOk (confL c l) = true := by
  intro l hl
  have : ∀ (k : Nat), k ≤ l.length → Mans.confOk (confL c (l.take k)) = true := by
    intro k
    induction k with
    | zero => intro _; simpa [confL] using hc
    | succ k ih =>
      intro hk
      rw [confL_take (by omega : k < l.length)]
      split
      · next h2 =>
        have he := conf_read (hl _ (List.getElem_mem (by omega : k < l.length))) h2
        exact conf_right he
      · exact ih (by omega)
  have h := this l.length (Nat.le_refl _)
  rwa [List.take_length] at h
theorem gives92 (id x : Int) (B : Nat) (W : World) (hc : W.cell? ⟨B, 0, none⟩ = some (.int .i64 id)) :
    FnGives Try.prog 92 #[.pointer (some ⟨B, 0, none⟩)] #[.int .i64 x] (.bool (decide (x = id))) W := by
  show Calls Try.prog 92 #[.int .i64 x, .pointer (some ⟨B, 0, none⟩)] W _
  by_cases h : x = id
  · subst h
    go_enter Try.func92, Try.ntmps92
    go_wp2
    go_ret
    exact ⟨by simp, 0, rfl⟩
  · go_enter Try.func92, Try.ntmps92
    go_wp2
    go_ret
    exact ⟨by simp [h], 0, rfl⟩
theorem IntAt.pre {w : World} {a : Option Addr} {g off : Nat} {l r : List Int} (h : IntAt w a g off (l ++ r)) : IntAt w a g off l := by
  refine ⟨fun hl => h.1 (by simp; omega), fun j hj => ?_⟩
  have := h.2 j (by simp; omega)
  rwa [List.getElem_append_left hj] at this
set_option maxHeartbeats 4000000 in
theorem delete_is {B g c base : Nat} (id : Int) (l : List Int) (hl : l.length ≤ 1048576) (hpos : 0 < l.length) (W : World) (hown : W.ownsRow base 3 1 (.slice (some ⟨g, 0, none⟩) l.length c) l.length (cellsI l)) (hne : B ≠ g) (hB : B < W.heap.size) (hc : W.cell? ⟨B, 0, none⟩ = some (.int .i64 id)) :
    Calls Try.prog 90 #[.slice (some ⟨g, 0, none⟩) l.length c, .func (.func 92) #[] #[.pointer (some ⟨B, 0, none⟩)]] W fun e w' => e = .returned (.slice (some ⟨g, 0, none⟩) (othersL l id).length c) ∧ IntAt w' (some ⟨g, 0, none⟩) g 0 (othersL l id) ∧ Below base W w' := by
  obtain ⟨cur, hg, hblk, hcap, hmax, hsz, htk⟩ : ∃ cur, base ≤ g ∧ W.heap[g]? = some (.cells cur 3 (0, 0)) ∧ l.length ≤ c ∧ c ≤ maxLen ∧ cur.size = c * 1 ∧ cur.toList.take (l.length * 1) = cellsI l := by
    rcases hown.2 with ⟨h1, h2⟩ | ⟨g', c', cur, h1, h2, h3, h4, h5, h6, h7⟩
    · cases h1
    · cases h1; exact ⟨cur, h2, h3, h4, h5, h6, h7⟩
  have hcI : cellsI l = l.map (Value.int .i64) := rfl
  rw [Nat.mul_one, hcI] at htk
  have hH : Go.Sort.Holds (Value.int .i64) W g 0 l.toArray := holds_of_blockI hblk htk
  have eg : ∀ args w, (callFunc 92 args).run Try.prog w = .ok (.enter 92 args) w := enters_of Try.func92 (by kernel_rfl) rfl
  have hcon := AnyE.slices_DeleteFunc Try.l90 (Value.int .i64) (fun _ => rfl) (fun x => decide (x = id)) 92 #[.pointer (some ⟨B, 0, none⟩)] eg 0 Try.zeroValue3 g 0 c l.toArray W
    (fun X x hb => gives92 id x B X ((hb.cell (p := ⟨B, 0, none⟩) hB).trans hc))
    (fun n os dk x _ => gives92 id x B _ (by
      unfold sortWorld
      rw [Go.Sort.cell?_grow _ _ _ (by show B < (Go.Sort.putRow _ _ _ _ _).heap.size; rw [Go.Sort.size_putRow]; exact hB), Go.Sort.cell?_putRow_other _ _ g 0 _ _ (Or.inl hne)]
      exact hc)) hH (by simp; omega) (by simpa using hcap)
  change Calls Try.prog 90 _ _ _ at hcon
  have hf : (l.toArray.toList.filter fun x => !decide (x = id)) = othersL l id := by
    unfold othersL
    simp
  rw [hf] at hcon
  have hlen : (othersL l id).length ≤ l.length := othersL_len l id
  refine Calls.mono (by simpa using hcon) ?_
  rintro e w' ⟨rfl, q, rfl⟩
  refine ⟨rfl, ?_, ?_⟩
  · obtain ⟨ts, hts⟩ : ∃ ts, ts = othersL l id ++ List.replicate (l.length - (othersL l id).length) (0 : Int) := ⟨_, rfl⟩
    have htl : ts.length = l.length := by rw [hts]; simp; omega
    have ho := ownsRow_sortedI (w := W) (base := base) (g := g) (cap := c) (n := q) (os := #[]) (ss := l) (ts := ts) htl hg hblk hcap hmax hsz
    rw [Go.Sort.grow_empty] at ho
    rw [← htl] at ho
    have hi : IntAt (Go.Sort.putRow (Value.int .i64) (Go.Sort.ahead W q) g 0 ts.toArray) (some ⟨g, 0, none⟩) g 0 ts := cellsI_own rfl ho
    rw [hts] at hi
    simpa using hi.pre
  · have hgr := grownBy_sortedI (w := W) (g := g) (n := q) (os := #[]) (othersL l id ++ List.replicate (l.length - (othersL l id).length) (0 : Int)).toArray
    rw [Go.Sort.grow_empty] at hgr
    have hb := (Below.refl base W).grown hgr (by have := (Array.getElem?_eq_some_iff.1 hblk).1; omega) (fun k hk => by cases hk; exact hg)
    simpa using hb
set_option maxHeartbeats 4000000 in
set_option maxRecDepth 100000 in
theorem others_is {ca ea va pa : Option Addr} {cc ec vc pc gc oc ge oe gv ov gp op : Nat} (n : NodeL) (hs : NodeS n) (hok : okL n.log = true) (hcf : Mans.confOk n.conf = true) (hec : n.log.ents.length ≤ ec) (hecm : ec ≤ 9223372036854775807) (w : World) (hR : NodeR w n ca gc oc ea ge oe va gv ov pa gp op) :
    Calls Try.prog 83 #[.agg #[.int .i64 n.id, .int .i64 n.term, .int .i64 n.vote, .int .i64 n.role, .int .i64 n.lead, .slice ca n.conf.length cc, .int .i64 n.log.start, .int .i64 n.log.sterm, .slice ea n.log.ents.length ec, .int .i64 n.commit, .int .i64 n.clock, .int .i64 n.limit, .slice va n.votes.length vc, .slice pa n.peers.length pc]] w fun e w' => ∃ a g c, e = .returned (.slice a (othersL (confL n.conf n.log.ents) n.id).length c) ∧ IntAt w' a g 0 (othersL (confL n.conf n.log.ents) n.id) ∧ Below w.heap.size w w' := by
  obtain ⟨W, hW⟩ : ∃ W, W = w.alloc (.cells #[.int .i64 n.id, .int .i64 n.term, .int .i64 n.vote, .int .i64 n.role, .int .i64 n.lead, .slice ca n.conf.length cc, .int .i64 n.log.start, .int .i64 n.log.sterm, .slice ea n.log.ents.length ec, .int .i64 n.commit, .int .i64 n.clock, .int .i64 n.limit, .slice va n.votes.length vc, .slice pa n.peers.length pc] 36) := ⟨_, rfl⟩
  have hb : Below w.heap.size w W := by rw [hW]; exact (Below.refl _ _).alloc (Nat.le_refl _) _
  have hsz : W.heap.size = w.heap.size + 1 := by rw [hW]; simp
  have hn0 : NodeAt W w.heap.size n ca cc ea ec va vc pa pc := by rw [hW]; exact NodeAt.new w n ca cc ea ec va vc pa pc 36
  have HB : Hid (Below w.heap.size w W) := hb
  have HX : Hid (∀ w', Below W.heap.size W w' → NodeAt w' w.heap.size n ca cc ea ec va vc pa pc) := fun w' h => hn0.kept h
  have hcl : n.conf.length ≤ 1048576 := hs.conf
  have HC : Hid (Calls Try.prog 91 #[.agg #[.int .i64 n.id, .int .i64 n.term, .int .i64 n.vote, .int .i64 n.role, .int .i64 n.lead, .slice ca n.conf.length cc, .int .i64 n.log.start, .int .i64 n.log.sterm, .slice ea n.log.ents.length ec, .int .i64 n.commit, .int .i64 n.clock, .int .i64 n.limit, .slice va n.votes.length vc, .slice pa n.peers.length pc]] W fun e w' => ∃ v, e = .returned v ∧ w'.ownsRow W.heap.size 3 1 v (confL n.conf n.log.ents).length (cellsI (confL n.conf n.log.ents)) ∧ Below W.heap.size W w') := confOf_is n hok hec hecm hcl W (hR.kept hb).conf (hR.kept hb).ents
  have hco := confL_ok hcf (okL_mem hok)
  have hcw := Mans.confOk_iff.1 hco
  obtain ⟨L, hL⟩ : ∃ L, L = confL n.conf n.log.ents := ⟨_, rfl⟩
  rw [← hL] at HC hcw ⊢
  have HLP : Hid (0 < L.length) := by show 0 < _; omega
  have HLM : Hid (L.length ≤ 1048576) := by show _ ≤ _; omega
  have HSZ : Hid (W.heap.size = w.heap.size + 1) := hsz
  obtain ⟨p0, p1, p2, p3, p4, p5, p6, p7, p8, p9, p10, p11, p12, p13⟩ := hn0
  rw [hW] at p0 p1 p2 p3 p4 p5 p6 p7 p8 p9 p10 p11 p12 p13
  clear hR hb hs hok hcf hec hecm hsz hco hcw hL hcl
  go_enter Try.func83, Try.ntmps83
  go_wp2_with fail
  rw [← hW]
  clear hW p0 p1 p2 p3 p4 p5 p6 p7 p8 p9 p10 p11 p12 p13
  refine Calls.mono HC.out ?_
  rintro e w1 ⟨v, rfl, ho, hb1⟩
  obtain ⟨g, c, hv, hg⟩ : ∃ g c, v = .slice (some ⟨g, 0, none⟩) L.length c ∧ W.heap.size ≤ g := by
    rcases ho.2 with ⟨_, h2⟩ | ⟨g, c, cur, h1, h2, _⟩
    · have := HLP.out; omega
    · exact ⟨g, c, h1, h2⟩
  subst hv
  have HD : Hid (Calls Try.prog 90 #[.slice (some ⟨g, 0, none⟩) L.length c, .func (.func 92) #[] #[.pointer (some ⟨w.heap.size, 0, none⟩)]] w1 fun e w' => e = .returned (.slice (some ⟨g, 0, none⟩) (othersL L n.id).length c) ∧ IntAt w' (some ⟨g, 0, none⟩) g 0 (othersL L n.id) ∧ Below w.heap.size w1 w') :=
    delete_is (base := w.heap.size) n.id L HLM.out HLP.out w1 (own_mono ho HB.out.size) (by have := HSZ.out; omega) (by have := HSZ.out; have := hb1.size; omega) (HX.out w1 hb1).c0
  have HB1 : Hid (Below w.heap.size w w1) := HB.out.trans (hb1.mono HB.out.size)
  clear ho hb1 hg HC HX HLP HLM HSZ
  go_wp2_with fail
  refine Calls.mono HD.out ?_
  rintro e w2 ⟨rfl, hi, hb2⟩
  have HI : Hid (IntAt w2 (some ⟨g, 0, none⟩) g 0 (othersL L n.id)) := hi
  have HB2 : Hid (Below w.heap.size w w2) := HB1.out.trans hb2
  clear hi hb2 HD HB1
  go_wp2
  go_ret
  exact ⟨some ⟨g, 0, none⟩, g, c, rfl, HI.out, HB2.out⟩
end Go.Proofs.Ytiifjhalkihlbaa
