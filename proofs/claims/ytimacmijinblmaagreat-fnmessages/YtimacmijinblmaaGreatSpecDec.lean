/- The specification's Decode, walked: what it reads is right where the text is a right message's, and what it answers is written again as the text. -/
import Derived.Test.YtimacmijinblmaaGreatLApp
import Derived.Test.YtimacmijinblmaaGreatSpecEncA
import Derived.Test.YtimacmijinblmaaGreatSpecEnc
namespace Go.Proofs.YtimacmijinblmaaGreat
open Go.RowKit
open Ents (okB)
open Msgs (okM bt Got pos epos)
set_option linter.unusedVariables false
set_option linter.unusedSimpArgs false

/-- What Decode answers. -/
def DecPost (w : World) (t : ByteArray) (en : Ending) (w' : World) : Prop := Below w.heap.size w w' ∧ ((∃ (m : MsgL) (a : Option Addr) (cap : Nat) (b : Option Addr) (capb : Nat), Got t m ∧ (∀ u, Got t u → m = u) ∧ en = .returned (.tuple #[msgV m a cap b capb, .bool true]) ∧ w'.ownsRow w.heap.size 44 3 (.slice a m.ents.length cap) m.ents.length (cellsEn m.ents) ∧ w'.ownsRow w.heap.size 3 1 (.slice b m.conf.length capb) m.conf.length (cellsI m.conf)) ∨ ((∀ m, ¬ Got t m) ∧ en = .returned (.tuple #[.agg zeroC, .bool false])))
theorem zero_one : ∀ v ∈ zeroC.toList, v.oneCell' = true := by
  intro v hv
  simp [zeroC] at hv
  rcases hv with rfl | rfl | rfl | rfl | rfl <;> rfl
theorem msg_one (m : MsgL) (a : Option Addr) (cap : Nat) (b : Option Addr) (capb : Nat) : ∀ v ∈ (msgC m a cap b capb).toList, v.oneCell' = true := by
  intro v hv
  simp [msgC] at hv
  rcases hv with rfl | rfl | rfl | rfl | rfl | rfl | rfl | rfl | rfl | rfl | rfl | rfl <;> rfl
theorem below_row {w w' : World} (h : Below w.heap.size w w') {g : Nat} (hg : w.heap.size ≤ g) (A : Array Value) : Below w.heap.size w (w'.setRow g A) := h.grown (grown_setRow w' g A) h.size (fun k e => by cases e; exact hg)
theorem own_row {B : Nat} {e : TypeId} {k : Nat} {v : Value} {n : Nat} {xs : List Value} {w : World} (h : w.ownsRow B e k v n xs) (g : Nat) (A : Array Value) (hne : v.ownBlock ≠ some g) : (w.setRow g A).ownsRow B e k v n xs := h.kept (grown_setRow w g A) (Or.inr hne)
theorem result5 {w : World} {g : Nat} {A C : Array Value} {R : Bool} (hg : w.heap[g]? = some (.cells C 25 (0, 0))) (hs : A.size = 12) {tmps : Array Value} (ht : tmps.getD 2 undef = .pointer (some ⟨g, 0, none⟩)) (h3 : tmps.getD 3 undef = .bool R) : (results Tryz.f5 tmps).run Tryz.prog (w.setRow g A) = .ok (.tuple #[.agg A, .bool R]) (w.setRow g A) := by
  have h := run_loadVar_agg (P := Tryz.prog) Tryz.isAgg25 Tryz.sizeOf25 (row_size (A := A) hg) hs
  have ht' : tmps[2]?.getD undef = .pointer (some ⟨g, 0, none⟩) := by simpa using ht
  have h3' : tmps[3]?.getD undef = .bool R := by simpa using h3
  simp [results, Tryz.results5, ht', h3', asAddr, h]
/-- The first three bytes. -/
theorem ex3 {t : ByteArray} (h : 3 ≤ t.size) : ∃ x y z, t.extract 0 3 = ⟨#[x, y, z]⟩ ∧ (Batches.by_ t)[0]? = some x ∧ (Batches.by_ t)[1]? = some y ∧ (Batches.by_ t)[2]? = some z := by
  have hl : (Batches.by_ t).length = t.size := Words.size_list t
  match hb : Batches.by_ t, hl with
  | x :: y :: z :: r, _ =>
    refine ⟨x, y, z, ?_, rfl, rfl, rfl⟩
    apply Batches.by_inj
    unfold Batches.by_ at hb ⊢
    rw [Words.extract_list, hb]
    rfl
  | [x, y], hl => simp at hl; omega
  | [x], hl => simp at hl; omega
  | [], hl => simp at hl; omega
theorem got3 {t : ByteArray} {m : MsgL} (h : Got t m) : 3 ≤ t.size := by
  have h2 := (Msgs.at_byte h (k := 2) rfl).1
  have := (List.getElem?_eq_some_iff.1 h2).1
  have e : pos m 2 = 2 := rfl
  rw [e] at this
  have hl : (Batches.by_ t).length = t.size := Words.size_list t
  omega
theorem got_head {t : ByteArray} {m : MsgL} {x y z : UInt8} (h : Got t m) (h0 : (Batches.by_ t)[0]? = some x) (h1 : (Batches.by_ t)[1]? = some y) (h2 : (Batches.by_ t)[2]? = some z) : ((x.toNat : Nat) : Int) = m.kind ∧ ((y.toNat : Nat) : Int) = m.frm ∧ ((z.toNat : Nat) : Int) = m.dst := by
  have a0 := (Msgs.at_byte h (k := 0) rfl).1
  have a1 := (Msgs.at_byte h (k := 1) rfl).1
  have a2 := (Msgs.at_byte h (k := 2) rfl).1
  rw [show pos m 0 = 0 from rfl, h0] at a0
  rw [show pos m 1 = 1 from rfl, h1] at a1
  rw [show pos m 2 = 2 from rfl, h2] at a2
  have F := Msgs.fits h.2
  cases a0; cases a1; cases a2
  exact ⟨Msgs.bt_back F.kind.1 F.kind.2, Msgs.bt_back F.frm.1 (by have := F.frm; omega), Msgs.bt_back F.dst.1 (by have := F.dst; omega)⟩
/-- A block of zeros behind a place. -/
def Zeroed (B : Nat) (v : Value) (W : World) : Prop := ∃ g, v = .pointer (some ⟨g, 0, none⟩) ∧ W.heap[g]? = some (.cells zeroC 25 (0, 0)) ∧ B ≤ g
theorem Zeroed.kept {B : Nat} {v : Value} {W W' : World} (h : Zeroed B v W) (hb : Below W.heap.size W W') : Zeroed B v W' := by
  obtain ⟨g, e, h1, h2⟩ := h
  exact ⟨g, e, (hb.block _ (Array.getElem?_eq_some_iff.1 h1).1).trans h1, h2⟩
theorem Zeroed.new {B : Nat} {W : World} (h : B ≤ W.heap.size) : Zeroed B (.pointer (some ⟨W.heap.size, 0, none⟩)) (W.alloc (Obj.cells zeroC 25)) := ⟨_, rfl, heap_alloc_new W _, h⟩
theorem Zeroed.elim {B : Nat} {v : Value} {W : World} {p : Prop} (h : Zeroed B v W) (k : ∀ g, v = .pointer (some ⟨g, 0, none⟩) → W.heap[g]? = some (.cells zeroC 25 (0, 0)) → B ≤ g → p) : p := by
  obtain ⟨g, e, h1, h2⟩ := h
  exact k g e h1 h2
theorem start5 {w w1 w2 : World} {t : ByteArray} {mb : Nat} (hz : w1.heap[w.heap.size]? = some (.cells zeroC 25 (0, 0))) (hb : Below w.heap.size w w1) (hc : C5 w1 (w.heap.size + 1) t 3 false) (hs : w.heap.size + 2 ≤ w1.heap.size) (hb2 : Below w1.heap.size w1 w2) (hm : w2.heap[mb]? = some (.cells zeroC 25 (0, 0))) (hl : w1.heap.size ≤ mb) (A : Array Value) : DS w mb t A (.slice none 0 0) [] (.slice none 0 0) [] 3 false (w2.setRow mb A) := by
  have h1 := (hb2.block _ (Array.getElem?_eq_some_iff.1 hz).1).trans hz
  have h2 := hc.below hb2
  have h3 := hb.trans (hb2.mono hb.size)
  exact ⟨⟨row_far h2.1 (by omega) A, h2.2⟩, row_far h1 (by omega) A, row_size hm, by omega, World.ownsRow_nil _ _ 44 3, World.ownsRow_nil _ _ 3 1, below_row h3 (by omega) A⟩
theorem en_own {w : World} {base : Nat} {a : Option Addr} {cap : Nat} {l : List EntL} (h : w.ownsRow base 44 3 (.slice a l.length cap) l.length (cellsEn l)) : ∃ g off, EnAt w a g off l := by
  rcases h.2 with ⟨h1, h2⟩ | ⟨g, cap', cur, h1, _⟩
  · have hl : l.length = 0 := by
      simp only [Value.slice.injEq] at h1
      exact h1.2.1
    rw [List.length_eq_zero_iff.1 hl]
    exact ⟨0, 0, fun h => absurd h (Nat.lt_irrefl _), fun j hj => absurd hj (Nat.not_lt_zero _)⟩
  · simp only [Value.slice.injEq] at h1
    obtain ⟨rfl, _, rfl⟩ := h1
    exact ⟨g, 0, cellsEn_own rfl h⟩
theorem int_own {w : World} {base : Nat} {a : Option Addr} {cap : Nat} {l : List Int} (h : w.ownsRow base 3 1 (.slice a l.length cap) l.length (cellsI l)) : ∃ g off, IntAt w a g off l := by
  rcases h.2 with ⟨h1, h2⟩ | ⟨g, cap', cur, h1, _⟩
  · have hl : l.length = 0 := by
      simp only [Value.slice.injEq] at h1
      exact h1.2.1
    rw [List.length_eq_zero_iff.1 hl]
    exact ⟨0, 0, fun h => absurd h (Nat.lt_irrefl _), fun j hj => absurd hj (Nat.not_lt_zero _)⟩
  · simp only [Value.slice.injEq] at h1
    obtain ⟨rfl, _, rfl⟩ := h1
    exact ⟨g, 0, cellsI_own rfl h⟩
theorem enc_parts (m : MsgL) : ∃ T O, encTuple m = .tuple #[.string T, .bool O] ∧ O = okM m ∧ (O = true → T = Msgs.textS m) := by
  unfold encTuple
  cases h : okM m with
  | true => exact ⟨_, _, rfl, rfl, fun _ => rfl⟩
  | false => exact ⟨_, _, rfl, rfl, fun x => by cases x⟩
theorem toList_by (T : ByteArray) : T.toList = Batches.by_ T := by rw [ByteArray.toList_eq]
theorem wrap_i64 (k : Int) : IntKind.i64.wrap k = wrap64 k := by rw [IntKind.wrap_i64]; unfold wrap64; omega
theorem toList1 (x : UInt8) : (⟨#[x]⟩ : ByteArray).toList = [x] := by simp
theorem take1_both {cb : Nat} {t : ByteArray} {a : Nat} (hs : t.size ≤ 1048576) (w : World) (bad : Bool) (hc : C5 w cb t a bad) :
    Calls Tryz.prog 16 #[.pointer (some ⟨cb, 0, none⟩), .int .i64 1] w fun e w' => ∃ (x : ByteArray) (a' : Nat) (bad' : Bool), e = .returned (.string x) ∧ C5 w' cb t a' bad' ∧ w.grownBy w' (some cb) ∧ (bad = false → a + 1 ≤ t.size → x = t.extract a (a + 1) ∧ a' = a + 1 ∧ bad' = false) := by
  by_cases h : bad = false ∧ a + 1 ≤ t.size
  · obtain ⟨rfl, h1⟩ := h
    exact (take_ok (n := 1) hs w hc h1).mono fun e w' ⟨p1, p2, p3⟩ => ⟨_, _, _, p1, p2, p3, fun _ _ => ⟨rfl, rfl, rfl⟩⟩
  · refine (take_bad (n := 1) hs w bad hc ?_ (by decide)).mono fun e w' ⟨p1, p2, p3⟩ => ⟨_, _, _, p1, p2, p3, fun q1 q2 => absurd ⟨q1, q2⟩ h⟩
    cases bad with
    | true => exact Or.inl rfl
    | false => exact Or.inr (by have : ¬ a + 1 ≤ t.size := fun x => h ⟨rfl, x⟩; omega)
set_option maxHeartbeats 16000000 in
set_option maxRecDepth 100000 in
theorem specDec_is {t : ByteArray} (hs : t.size ≤ 1048576) (w : World) : Calls Tryz.prog 5 #[.string t] w (DecPost w t) := by
  obtain ⟨W, hW⟩ : ∃ W, W = (w.alloc (Obj.cells zeroC 25)).alloc (Obj.cells #[.string t, .int .i64 0, .bool false] 40) := ⟨_, rfl⟩
  have HWD : Hid ((w.alloc (Obj.cells #[.int .i64 0, .int .i64 0, .int .i64 0, .int .i64 0, .int .i64 0, .int .i64 0, .int .i64 0, .bool false, .slice none 0 0, .slice none 0 0, .string ⟨#[]⟩, .bool false] 25)).alloc (Obj.cells #[.string t, .int .i64 0, .bool false] 40) = W) := hW.symm
  have HZ : Hid (W.heap[w.heap.size]? = some (.cells zeroC 25 (0, 0))) := by
    show _ = _
    rw [hW, Below.heap_alloc _ _ _ (by simp)]
    exact heap_alloc_new w _
  have HC : Hid (C5 W (w.heap.size + 1) t 0 false) := by
    refine ⟨?_, Nat.zero_le _⟩
    rw [hW]
    have := heap_alloc_new (w.alloc (Obj.cells zeroC 25)) (Obj.cells #[.string t, .int .i64 0, .bool false] 40)
    simpa using this
  have HB : Hid (Below w.heap.size w W) := by show Below _ _ _; rw [hW]; exact ((Below.refl _ _).alloc (Nat.le_refl _) _).alloc (by simp) _
  have hs1 : W.heap.size = w.heap.size + 2 := by rw [hW]; simp
  clear hW
  have HSW : Hid (W.heap.size = w.heap.size + 2) := hs1
  clear hs1
  go_enter Tryz.func5, Tryz.ntmps5
  go_wp2_with fail
  rw [HWD.out]
  clear HWD
  by_cases h3 : 3 ≤ t.size
  rotate_left
  · refine (take_bad (n := 3) hs W false HC.out (Or.inr (by omega)) (by decide)).mono ?_
    rintro en w1 ⟨rfl, hc1, hg1⟩
    have HZ1 : Hid (_ = _) := grown_keep HZ.out hg1 (by omega)
    have HB1 : Hid (Below w.heap.size w w1) := HB.out.grown hg1 HB.out.size (fun k e => by cases e; omega)
    have c2 := hc1.c2
    clear hc1 hg1 HC HZ HB
    go_wp2_with (first | (refine wpList_storeA Tryz.sizeOf25 rfl _ _ rfl w.heap.size zeroC zeroC 25 rfl rfl HZ1.out rfl rfl zero_one ?_) | fail)
    refine bodyPost_ret (result5 HZ1.out rfl rfl rfl) rfl ⟨below_row HB1.out (Nat.le_refl _) _, Or.inr ⟨fun m hm => h3 (got3 hm), rfl⟩⟩
  refine (take_ok (n := 3) hs W HC.out (by omega)).mono ?_
  obtain ⟨x, y, z, ex, hx0, hx1, hx2⟩ := ex3 h3
  rw [show 0 + 3 = 3 from rfl, ex]
  rintro en w1 ⟨rfl, hc1, hg1⟩
  have HZ1 : Hid (w1.heap[w.heap.size]? = some (.cells zeroC 25 (0, 0))) := grown_keep HZ.out hg1 (by omega)
  have HB1 : Hid (Below w.heap.size w w1) := HB.out.grown hg1 HB.out.size (fun k e => by cases e; omega)
  have HC1 : Hid (C5 w1 (w.heap.size + 1) t 3 false) := hc1
  have HS1 : Hid (w.heap.size + 2 ≤ w1.heap.size) := by have := hg1.size; have := HSW.out; show _ ≤ _; omega
  have HHD : Hid (∀ m, Got t m → ((x.toNat : Nat) : Int) = m.kind ∧ ((y.toNat : Nat) : Int) = m.frm ∧ ((z.toNat : Nat) : Int) = m.dst) := fun m hm => got_head hm hx0 hx1 hx2
  have c2 := hc1.c2
  have wx : wrap64 ((x.toNat : Nat) : Int) = ((x.toNat : Nat) : Int) := wrap_byte x
  have wy : wrap64 ((y.toNat : Nat) : Int) = ((y.toNat : Nat) : Int) := wrap_byte y
  have wz : wrap64 ((z.toNat : Nat) : Int) = ((z.toNat : Nat) : Int) := wrap_byte z
  have HWX : Hid (wrap64 ((x.toNat : Nat) : Int) = ((x.toNat : Nat) : Int) ∧ wrap64 ((y.toNat : Nat) : Int) = ((y.toNat : Nat) : Int) ∧ wrap64 ((z.toNat : Nat) : Int) = ((z.toNat : Nat) : Int)) := ⟨wx, wy, wz⟩
  have ONE0 : ∀ v ∈ (#[.int .i64 ((x.toNat : Nat) : Int), .int .i64 ((y.toNat : Nat) : Int), .int .i64 ((z.toNat : Nat) : Int), .int .i64 0, .int .i64 0, .int .i64 0, .int .i64 0, .bool false, .slice none 0 0, .slice none 0 0, .string ⟨#[]⟩, .bool false] : Array Value).toList, v.oneCell' = true := fun v hv => by
    simp at hv
    rcases hv with rfl | rfl | rfl | rfl | rfl | rfl | rfl | rfl <;> rfl
  clear hc1 hg1 HC HZ HB ex hx0 hx1 hx2 h3 wx wy wz HSW
  go_wp2_with fail
  go_cut [6] (fun p wx => ∃ mb : Nat, p = .pointer (some ⟨mb, 0, none⟩) ∧ Hid (DS w mb t #[.int .i64 ((x.toNat : Nat) : Int), .int .i64 ((y.toNat : Nat) : Int), .int .i64 ((z.toNat : Nat) : Int), .int .i64 0, .int .i64 0, .int .i64 0, .int .i64 0, .bool false, .slice none 0 0, .slice none 0 0, .string ⟨#[]⟩, .bool false] (.slice none 0 0) [] (.slice none 0 0) [] 3 false wx))
  case first =>
    rename_i J K1 hJ hK
    refine Inv.region_walk_last 115 (fun i v W => if i = 10 then Zeroed w1.heap.size v W else v = [.string (⟨#[x, y, z]⟩ : ByteArray), .int .u8 ((x.toNat : Nat) : Int), .int .i64 ((x.toNat : Nat) : Int), .string (⟨#[x, y, z]⟩ : ByteArray), .int .u8 ((y.toNat : Nat) : Int), .int .i64 ((y.toNat : Nat) : Int), .string (⟨#[x, y, z]⟩ : ByteArray), .int .u8 ((z.toNat : Nat) : Int), .int .i64 ((z.toNat : Nat) : Int), .agg #[.int .i64 ((x.toNat : Nat) : Int), .int .i64 ((y.toNat : Nat) : Int), .int .i64 ((z.toNat : Nat) : Int), .int .i64 0, .int .i64 0, .int .i64 0, .int .i64 0, .bool false, .slice none 0 0, .slice none 0 0, .string ⟨#[]⟩, .bool false], undef].getD i undef) rfl rfl (by kernel_rfl) (by kernel_rfl) ?_ ?_ ?_
    · intro i v X X' h hb
      by_cases h9 : i = 10
      · simp only [h9, if_true] at h ⊢
        exact h.kept hb
      · simp only [h9, if_false] at h ⊢
        exact h
    · refine ⟨?_, ?_, ?_, ?_, ?_, ?_, ?_, ?_, ?_, ?_, ?_, trivial⟩
      · intro f X K hb hf hd hk
        have e5 : f 5 = .string (⟨#[x, y, z]⟩ : ByteArray) := hf 5 rfl
        refine Inv.pay_value (v := .string (⟨#[x, y, z]⟩ : ByteArray)) (w' := X) ?_ ?_
        · simp [execOp, go_sem, Inv.act_get, e5]
        · exact hk (.string (⟨#[x, y, z]⟩ : ByteArray)) X (Below.refl _ _) rfl
      · intro f X K hb hf hd hk
        have d : f 24 = .string (⟨#[x, y, z]⟩ : ByteArray) := hd 0 rfl
        refine Inv.pay_value (v := .int .u8 ((x.toNat : Nat) : Int)) (w' := X) ?_ ?_
        · simp [execOp, go_sem, Inv.act_get, d]; rfl
        · exact hk (.int .u8 ((x.toNat : Nat) : Int)) X (Below.refl _ _) rfl
      · intro f X K hb hf hd hk
        have d : f 25 = .int .u8 ((x.toNat : Nat) : Int) := hd 1 rfl
        have wv := HWX.out.1
        refine Inv.pay_value (v := .int .i64 ((x.toNat : Nat) : Int)) (w' := X) ?_ ?_
        · simp [execOp, go_sem, Inv.act_get, d]; exact (wrap_i64 _).trans wv
        · exact hk (.int .i64 ((x.toNat : Nat) : Int)) X (Below.refl _ _) rfl
      · intro f X K hb hf hd hk
        have e5 : f 5 = .string (⟨#[x, y, z]⟩ : ByteArray) := hf 5 rfl
        refine Inv.pay_value (v := .string (⟨#[x, y, z]⟩ : ByteArray)) (w' := X) ?_ ?_
        · simp [execOp, go_sem, Inv.act_get, e5]
        · exact hk (.string (⟨#[x, y, z]⟩ : ByteArray)) X (Below.refl _ _) rfl
      · intro f X K hb hf hd hk
        have d : f 27 = .string (⟨#[x, y, z]⟩ : ByteArray) := hd 3 rfl
        refine Inv.pay_value (v := .int .u8 ((y.toNat : Nat) : Int)) (w' := X) ?_ ?_
        · simp [execOp, go_sem, Inv.act_get, d]; rfl
        · exact hk (.int .u8 ((y.toNat : Nat) : Int)) X (Below.refl _ _) rfl
      · intro f X K hb hf hd hk
        have d : f 28 = .int .u8 ((y.toNat : Nat) : Int) := hd 4 rfl
        have wv := HWX.out.2.1
        refine Inv.pay_value (v := .int .i64 ((y.toNat : Nat) : Int)) (w' := X) ?_ ?_
        · simp [execOp, go_sem, Inv.act_get, d]; exact (wrap_i64 _).trans wv
        · exact hk (.int .i64 ((y.toNat : Nat) : Int)) X (Below.refl _ _) rfl
      · intro f X K hb hf hd hk
        have e5 : f 5 = .string (⟨#[x, y, z]⟩ : ByteArray) := hf 5 rfl
        refine Inv.pay_value (v := .string (⟨#[x, y, z]⟩ : ByteArray)) (w' := X) ?_ ?_
        · simp [execOp, go_sem, Inv.act_get, e5]
        · exact hk (.string (⟨#[x, y, z]⟩ : ByteArray)) X (Below.refl _ _) rfl
      · intro f X K hb hf hd hk
        have d : f 30 = .string (⟨#[x, y, z]⟩ : ByteArray) := hd 6 rfl
        refine Inv.pay_value (v := .int .u8 ((z.toNat : Nat) : Int)) (w' := X) ?_ ?_
        · simp [execOp, go_sem, Inv.act_get, d]; rfl
        · exact hk (.int .u8 ((z.toNat : Nat) : Int)) X (Below.refl _ _) rfl
      · intro f X K hb hf hd hk
        have d : f 31 = .int .u8 ((z.toNat : Nat) : Int) := hd 7 rfl
        have wv := HWX.out.2.2
        refine Inv.pay_value (v := .int .i64 ((z.toNat : Nat) : Int)) (w' := X) ?_ ?_
        · simp [execOp, go_sem, Inv.act_get, d]; exact (wrap_i64 _).trans wv
        · exact hk (.int .i64 ((z.toNat : Nat) : Int)) X (Below.refl _ _) rfl
      · intro f X K hb hf hd hk
        have d2 : f 26 = .int .i64 ((x.toNat : Nat) : Int) := hd 2 rfl
        have d5 : f 29 = .int .i64 ((y.toNat : Nat) : Int) := hd 5 rfl
        have d8 : f 32 = .int .i64 ((z.toNat : Nat) : Int) := hd 8 rfl
        refine Inv.pay_value (v := .agg #[.int .i64 ((x.toNat : Nat) : Int), .int .i64 ((y.toNat : Nat) : Int), .int .i64 ((z.toNat : Nat) : Int), .int .i64 0, .int .i64 0, .int .i64 0, .int .i64 0, .bool false, .slice none 0 0, .slice none 0 0, .string ⟨#[]⟩, .bool false]) (w' := X) ?_ ?_
        · simp [execOp, go_sem, Inv.act_get, d2, d5, d8]
        · exact hk (.agg #[.int .i64 ((x.toNat : Nat) : Int), .int .i64 ((y.toNat : Nat) : Int), .int .i64 ((z.toNat : Nat) : Int), .int .i64 0, .int .i64 0, .int .i64 0, .int .i64 0, .bool false, .slice none 0 0, .slice none 0 0, .string ⟨#[]⟩, .bool false]) X (Below.refl _ _) rfl
      · intro f X K hb hf hd hk
        refine Inv.pay_value (v := .pointer (some ⟨X.heap.size, 0, none⟩)) (w' := X.alloc (Obj.cells zeroC 25)) ?_ ?_
        · simp [execOp, go_sem, Inv.act_get, zeroC]
        · exact hk (.pointer (some ⟨X.heap.size, 0, none⟩)) (X.alloc (Obj.cells zeroC 25)) ((Below.refl _ _).alloc (Nat.le_refl _) _) (Zeroed.new hb.size)
    · intro f w2 hb2 hf hv
      have d9 : f 33 = .agg #[.int .i64 ((x.toNat : Nat) : Int), .int .i64 ((y.toNat : Nat) : Int), .int .i64 ((z.toNat : Nat) : Int), .int .i64 0, .int .i64 0, .int .i64 0, .int .i64 0, .bool false, .slice none 0 0, .slice none 0 0, .string ⟨#[]⟩, .bool false] := hv 9 (by decide)
      have d10 : Zeroed w1.heap.size (f 6) w2 := hv 10 (by decide)
      exact d10.elim fun mb e10 hz2 hl2 => by
        have hrun := run_store_agg (P := Tryz.prog) Tryz.sizeOf25 hz2 (A := #[.int .i64 ((x.toNat : Nat) : Int), .int .i64 ((y.toNat : Nat) : Int), .int .i64 ((z.toNat : Nat) : Int), .int .i64 0, .int .i64 0, .int .i64 0, .int .i64 0, .bool false, .slice none 0 0, .slice none 0 0, .string ⟨#[]⟩, .bool false]) rfl rfl ONE0
        refine Inv.last_skip rfl rfl (w' := w2.setRow mb #[.int .i64 ((x.toNat : Nat) : Int), .int .i64 ((y.toNat : Nat) : Int), .int .i64 ((z.toNat : Nat) : Int), .int .i64 0, .int .i64 0, .int .i64 0, .int .i64 0, .bool false, .slice none 0 0, .slice none 0 0, .string ⟨#[]⟩, .bool false]) ?_ ?_
        · simp [execOp, Inv.act_eval, d9, e10, hrun, Result.andThen]
        · have hD : DS w mb t #[.int .i64 ((x.toNat : Nat) : Int), .int .i64 ((y.toNat : Nat) : Int), .int .i64 ((z.toNat : Nat) : Int), .int .i64 0, .int .i64 0, .int .i64 0, .int .i64 0, .bool false, .slice none 0 0, .slice none 0 0, .string ⟨#[]⟩, .bool false] (.slice none 0 0) [] (.slice none 0 0) [] 3 false (w2.setRow mb #[.int .i64 ((x.toNat : Nat) : Int), .int .i64 ((y.toNat : Nat) : Int), .int .i64 ((z.toNat : Nat) : Int), .int .i64 0, .int .i64 0, .int .i64 0, .int .i64 0, .bool false, .slice none 0 0, .slice none 0 0, .string ⟨#[]⟩, .bool false]) := start5 HZ1.out HB1.out HC1.out HS1.out hb2 hz2 hl2 _
          have e0 : f 0 = .string t := hf 0 rfl
          have e1 : f 1 = undef := hf 1 rfl
          have e2 : f 2 = .pointer (some ⟨w.heap.size, 0, none⟩) := hf 2 rfl
          have e3 : f 3 = .bool false := hf 3 rfl
          have e4 : f 4 = .pointer (some ⟨w.heap.size + 1, 0, none⟩) := hf 4 rfl
          have e5 : f 5 = .string (⟨#[x, y, z]⟩ : ByteArray) := hf 5 rfl
          have e7 : f 7 = undef := hf 7 rfl
          have e8 : f 8 = undef := hf 8 rfl
          have e9 : f 9 = undef := hf 9 rfl
          have e0' : f 10 = undef := hf 10 rfl
          have e11 : f 11 = undef := hf 11 rfl
          have e12 : f 12 = undef := hf 12 rfl
          have e13 : f 13 = undef := hf 13 rfl
          have hact : Inv.act 115 [] f = ⟨(f 0 :: f 1 :: f 2 :: f 3 :: f 4 :: f 5 :: f 6 :: f 7 :: f 8 :: f 9 :: f 10 :: f 11 :: f 12 :: f 13 :: f 14 :: f 15 :: f 16 :: f 17 :: f 18 :: f 19 :: f 20 :: f 21 :: f 22 :: f 23 :: f 24 :: f 25 :: f 26 :: f 27 :: f 28 :: f 29 :: f 30 :: f 31 :: f 32 :: f 33 :: f 34 :: f 35 :: f 36 :: f 37 :: f 38 :: f 39 :: f 40 :: f 41 :: f 42 :: f 43 :: f 44 :: f 45 :: f 46 :: f 47 :: f 48 :: f 49 :: f 50 :: f 51 :: f 52 :: f 53 :: f 54 :: f 55 :: f 56 :: f 57 :: f 58 :: f 59 :: f 60 :: f 61 :: f 62 :: f 63 :: f 64 :: f 65 :: f 66 :: f 67 :: f 68 :: f 69 :: f 70 :: f 71 :: f 72 :: f 73 :: f 74 :: f 75 :: f 76 :: f 77 :: f 78 :: f 79 :: f 80 :: f 81 :: f 82 :: f 83 :: f 84 :: f 85 :: f 86 :: f 87 :: f 88 :: f 89 :: f 90 :: f 91 :: f 92 :: f 93 :: f 94 :: f 95 :: f 96 :: f 97 :: f 98 :: f 99 :: f 100 :: f 101 :: f 102 :: f 103 :: f 104 :: f 105 :: f 106 :: f 107 :: f 108 :: f 109 :: f 110 :: f 111 :: f 112 :: f 113 :: f 114 :: []).toArray, []⟩ := by kernel_rfl
          show K1 (Inv.act 115 [] f) _
          rw [hact, e0, e1, e2, e3, e4, e5, e10, e7, e8, e9, e11, e12, e13, e0']
          refine hK _ _ (Met.intro (hJ _ _ ?_))
          (repeat apply Exists.intro)
          exact ⟨⟨mb, rfl, hD⟩, rfl⟩
  case rest =>
    obtain ⟨mb, rfl, HD0⟩ := hcut
    have HP0 : Hid (∀ m, Got t m → false = false ∧ 3 = pos m 3) := fun m hm => ⟨rfl, rfl⟩
    clear HZ1 HB1 HC1 HS1 c2 HWX ONE0
    go_wp2_with fail
    refine (l05Var_both hs wc false HD0.out.cur).mono ?_
    rintro en X1 ⟨n1, a1, bad1, rfl, hn1, hc, hg, hex⟩
    have hD := HD0.out.grown hg hc
    have HP1 : Hid (∀ m, Got t m → bad1 = false ∧ a1 = pos m 4) := fun m hm => by
      obtain ⟨hb, ha⟩ := HP0.out m hm
      have r := Msgs.at_var hm (k := 3) (n := m.term.toNat) (by have := (Msgs.fits hm.2).term; omega) rfl
      rw [← ha] at r
      obtain ⟨q1, q2, q3⟩ := hex (by first | exact hb | rfl) _ _ r
      exact ⟨q3, q2⟩
    have HG1 : Hid (∀ m, Got t m → (n1 : Int) = m.term) := fun m hm => by
      obtain ⟨hb, ha⟩ := HP0.out m hm
      have F := (Msgs.fits hm.2).term
      have r := Msgs.at_var hm (k := 3) (n := m.term.toNat) (by omega) rfl
      rw [← ha] at r
      obtain ⟨q1, q2, q3⟩ := hex (by first | exact hb | rfl) _ _ r
      rw [q1]
      omega
    clear hex hc hg HP0 HD0
    have x1 := cell_of_row _ _ 3 _ _ _ hD.msg
    have xf1 := frozen_of_row _ _ 3 _ _ hD.msg
    simp at x1
    obtain ⟨Y1, hY1⟩ : ∃ Y, Y = X1.setCell ⟨mb, 3, none⟩ (.int .i64 (n1 : Int)) := ⟨_, rfl⟩
    have HD1 : Hid (DS w mb t #[.int .i64 ((x.toNat : Nat) : Int), .int .i64 ((y.toNat : Nat) : Int), .int .i64 ((z.toNat : Nat) : Int), .int .i64 (n1 : Int), .int .i64 0, .int .i64 0, .int .i64 0, .bool false, .slice none 0 0, .slice none 0 0, .string ⟨#[]⟩, .bool false] (.slice none 0 0) [] (.slice none 0 0) [] a1 bad1 Y1) := by rw [hY1]; exact hD.set 3 _
    clear hD
    go_wp2_with fail
    rw [← hY1]
    clear hY1 x1 xf1
    refine (l05Var_both hs Y1 bad1 HD1.out.cur).mono ?_
    rintro en X2 ⟨n2, a2, bad2, rfl, hn2, hc, hg, hex⟩
    have hD := HD1.out.grown hg hc
    have HP2 : Hid (∀ m, Got t m → bad2 = false ∧ a2 = pos m 5) := fun m hm => by
      obtain ⟨hb, ha⟩ := HP1.out m hm
      have r := Msgs.at_var hm (k := 4) (n := m.index.toNat) (by have := (Msgs.fits hm.2).index; omega) rfl
      rw [← ha] at r
      obtain ⟨q1, q2, q3⟩ := hex (by first | exact hb | rfl) _ _ r
      exact ⟨q3, q2⟩
    have HG2 : Hid (∀ m, Got t m → (n2 : Int) = m.index) := fun m hm => by
      obtain ⟨hb, ha⟩ := HP1.out m hm
      have F := (Msgs.fits hm.2).index
      have r := Msgs.at_var hm (k := 4) (n := m.index.toNat) (by omega) rfl
      rw [← ha] at r
      obtain ⟨q1, q2, q3⟩ := hex (by first | exact hb | rfl) _ _ r
      rw [q1]
      omega
    clear hex hc hg HP1 HD1
    have x2 := cell_of_row _ _ 4 _ _ _ hD.msg
    have xf2 := frozen_of_row _ _ 4 _ _ hD.msg
    simp at x2
    obtain ⟨Y2, hY2⟩ : ∃ Y, Y = X2.setCell ⟨mb, 4, none⟩ (.int .i64 (n2 : Int)) := ⟨_, rfl⟩
    have HD2 : Hid (DS w mb t #[.int .i64 ((x.toNat : Nat) : Int), .int .i64 ((y.toNat : Nat) : Int), .int .i64 ((z.toNat : Nat) : Int), .int .i64 (n1 : Int), .int .i64 (n2 : Int), .int .i64 0, .int .i64 0, .bool false, .slice none 0 0, .slice none 0 0, .string ⟨#[]⟩, .bool false] (.slice none 0 0) [] (.slice none 0 0) [] a2 bad2 Y2) := by rw [hY2]; exact hD.set 4 _
    clear hD
    go_wp2_with fail
    rw [← hY2]
    clear hY2 x2 xf2
    refine (l05Var_both hs Y2 bad2 HD2.out.cur).mono ?_
    rintro en X3 ⟨n3, a3, bad3, rfl, hn3, hc, hg, hex⟩
    have hD := HD2.out.grown hg hc
    have HP3 : Hid (∀ m, Got t m → bad3 = false ∧ a3 = pos m 6) := fun m hm => by
      obtain ⟨hb, ha⟩ := HP2.out m hm
      have r := Msgs.at_var hm (k := 5) (n := m.lterm.toNat) (by have := (Msgs.fits hm.2).lterm; omega) rfl
      rw [← ha] at r
      obtain ⟨q1, q2, q3⟩ := hex (by first | exact hb | rfl) _ _ r
      exact ⟨q3, q2⟩
    have HG3 : Hid (∀ m, Got t m → (n3 : Int) = m.lterm) := fun m hm => by
      obtain ⟨hb, ha⟩ := HP2.out m hm
      have F := (Msgs.fits hm.2).lterm
      have r := Msgs.at_var hm (k := 5) (n := m.lterm.toNat) (by omega) rfl
      rw [← ha] at r
      obtain ⟨q1, q2, q3⟩ := hex (by first | exact hb | rfl) _ _ r
      rw [q1]
      omega
    clear hex hc hg HP2 HD2
    have x3 := cell_of_row _ _ 5 _ _ _ hD.msg
    have xf3 := frozen_of_row _ _ 5 _ _ hD.msg
    simp at x3
    obtain ⟨Y3, hY3⟩ : ∃ Y, Y = X3.setCell ⟨mb, 5, none⟩ (.int .i64 (n3 : Int)) := ⟨_, rfl⟩
    have HD3 : Hid (DS w mb t #[.int .i64 ((x.toNat : Nat) : Int), .int .i64 ((y.toNat : Nat) : Int), .int .i64 ((z.toNat : Nat) : Int), .int .i64 (n1 : Int), .int .i64 (n2 : Int), .int .i64 (n3 : Int), .int .i64 0, .bool false, .slice none 0 0, .slice none 0 0, .string ⟨#[]⟩, .bool false] (.slice none 0 0) [] (.slice none 0 0) [] a3 bad3 Y3) := by rw [hY3]; exact hD.set 5 _
    clear hD
    go_wp2_with fail
    rw [← hY3]
    clear hY3 x3 xf3
    refine (l05Var_both hs Y3 bad3 HD3.out.cur).mono ?_
    rintro en X4 ⟨n4, a4, bad4, rfl, hn4, hc, hg, hex⟩
    have hD := HD3.out.grown hg hc
    have HP4 : Hid (∀ m, Got t m → bad4 = false ∧ a4 = pos m 7) := fun m hm => by
      obtain ⟨hb, ha⟩ := HP3.out m hm
      have r := Msgs.at_var hm (k := 6) (n := m.commit.toNat) (by have := (Msgs.fits hm.2).commit; omega) rfl
      rw [← ha] at r
      obtain ⟨q1, q2, q3⟩ := hex (by first | exact hb | rfl) _ _ r
      exact ⟨q3, q2⟩
    have HG4 : Hid (∀ m, Got t m → (n4 : Int) = m.commit) := fun m hm => by
      obtain ⟨hb, ha⟩ := HP3.out m hm
      have F := (Msgs.fits hm.2).commit
      have r := Msgs.at_var hm (k := 6) (n := m.commit.toNat) (by omega) rfl
      rw [← ha] at r
      obtain ⟨q1, q2, q3⟩ := hex (by first | exact hb | rfl) _ _ r
      rw [q1]
      omega
    clear hex hc hg HP3 HD3
    have x4 := cell_of_row _ _ 6 _ _ _ hD.msg
    have xf4 := frozen_of_row _ _ 6 _ _ hD.msg
    simp at x4
    obtain ⟨Y4, hY4⟩ : ∃ Y, Y = X4.setCell ⟨mb, 6, none⟩ (.int .i64 (n4 : Int)) := ⟨_, rfl⟩
    have HD4 : Hid (DS w mb t #[.int .i64 ((x.toNat : Nat) : Int), .int .i64 ((y.toNat : Nat) : Int), .int .i64 ((z.toNat : Nat) : Int), .int .i64 (n1 : Int), .int .i64 (n2 : Int), .int .i64 (n3 : Int), .int .i64 (n4 : Int), .bool false, .slice none 0 0, .slice none 0 0, .string ⟨#[]⟩, .bool false] (.slice none 0 0) [] (.slice none 0 0) [] a4 bad4 Y4) := by rw [hY4]; exact hD.set 6 _
    clear hD
    go_wp2_with fail
    rw [← hY4]
    clear hY4 x4 xf4
    refine (take1_both hs Y4 bad4 HD4.out.cur).mono ?_
    rintro en X5 ⟨s5, a5, bad5, rfl, hc, hg, hex⟩
    have hD := HD4.out.grown hg hc
    obtain ⟨b5, hb5⟩ : ∃ b : Bool, b = (s5.toList == [1]) := ⟨_, rfl⟩
    have HP5 : Hid (∀ m, Got t m → bad5 = false ∧ a5 = pos m 8) := fun m hm => by
      obtain ⟨hb, ha⟩ := HP4.out m hm
      have r1 := (Msgs.pos_byte hm (k := 7) rfl).1
      rw [← ha] at r1
      obtain ⟨q1, q2, q3⟩ := hex hb r1
      exact ⟨q3, by rw [q2, ha, (Msgs.at_byte hm (k := 7) rfl).2]⟩
    have HG5 : Hid (∀ m, Got t m → b5 = m.ok) := fun m hm => by
      obtain ⟨hb, ha⟩ := HP4.out m hm
      obtain ⟨r1, r2⟩ := Msgs.pos_byte hm (k := 7) rfl
      rw [← ha] at r1 r2
      obtain ⟨q1, q2, q3⟩ := hex hb r1
      rw [hb5, q1, r2, toList1]
      cases m.ok <;> rfl
    clear hex hc hg HP4 HD4
    have x5 := cell_of_row _ _ 7 _ _ _ hD.msg
    have xf5 := frozen_of_row _ _ 7 _ _ hD.msg
    simp at x5
    obtain ⟨Y5, hY5⟩ : ∃ Y, Y = X5.setCell ⟨mb, 7, none⟩ (.bool b5) := ⟨_, rfl⟩
    have HD5 : Hid (DS w mb t #[.int .i64 ((x.toNat : Nat) : Int), .int .i64 ((y.toNat : Nat) : Int), .int .i64 ((z.toNat : Nat) : Int), .int .i64 (n1 : Int), .int .i64 (n2 : Int), .int .i64 (n3 : Int), .int .i64 (n4 : Int), .bool b5, .slice none 0 0, .slice none 0 0, .string ⟨#[]⟩, .bool false] (.slice none 0 0) [] (.slice none 0 0) [] a5 bad5 Y5) := by rw [hY5]; exact hD.set 7 _
    clear hD
    go_wp2_with fail
    rw [← hb5]
    clear hb5
    rw [← hY5]
    clear hY5 x5 xf5
    refine (take1_both hs Y5 bad5 HD5.out.cur).mono ?_
    rintro en X6 ⟨s6, a6, bad6, rfl, hc, hg, hex⟩
    have hD := HD5.out.grown hg hc
    obtain ⟨b6, hb6⟩ : ∃ b : Bool, b = (s6.toList == [1]) := ⟨_, rfl⟩
    have HP6 : Hid (∀ m, Got t m → bad6 = false ∧ a6 = pos m 9) := fun m hm => by
      obtain ⟨hb, ha⟩ := HP5.out m hm
      have r1 := (Msgs.pos_byte hm (k := 8) rfl).1
      rw [← ha] at r1
      obtain ⟨q1, q2, q3⟩ := hex hb r1
      exact ⟨q3, by rw [q2, ha, (Msgs.at_byte hm (k := 8) rfl).2]⟩
    have HG6 : Hid (∀ m, Got t m → b6 = m.last) := fun m hm => by
      obtain ⟨hb, ha⟩ := HP5.out m hm
      obtain ⟨r1, r2⟩ := Msgs.pos_byte hm (k := 8) rfl
      rw [← ha] at r1 r2
      obtain ⟨q1, q2, q3⟩ := hex hb r1
      rw [hb6, q1, r2, toList1]
      cases m.last <;> rfl
    clear hex hc hg HP5 HD5
    have x6 := cell_of_row _ _ 11 _ _ _ hD.msg
    have xf6 := frozen_of_row _ _ 11 _ _ hD.msg
    simp at x6
    obtain ⟨Y6, hY6⟩ : ∃ Y, Y = X6.setCell ⟨mb, 11, none⟩ (.bool b6) := ⟨_, rfl⟩
    have HD6 : Hid (DS w mb t #[.int .i64 ((x.toNat : Nat) : Int), .int .i64 ((y.toNat : Nat) : Int), .int .i64 ((z.toNat : Nat) : Int), .int .i64 (n1 : Int), .int .i64 (n2 : Int), .int .i64 (n3 : Int), .int .i64 (n4 : Int), .bool b5, .slice none 0 0, .slice none 0 0, .string ⟨#[]⟩, .bool b6] (.slice none 0 0) [] (.slice none 0 0) [] a6 bad6 Y6) := by rw [hY6]; exact hD.set 11 _
    clear hD
    go_wp2_with fail
    rw [← hb6, ← hY6]
    clear hb6 hY6 x6 xf6
    refine (l05Var_both hs Y6 bad6 HD6.out.cur).mono ?_
    rintro en X7 ⟨n7, a7, bad7, rfl, hn7, hc, hg, hex⟩
    have HD7 : Hid (DS w mb t #[.int .i64 ((x.toNat : Nat) : Int), .int .i64 ((y.toNat : Nat) : Int), .int .i64 ((z.toNat : Nat) : Int), .int .i64 (n1 : Int), .int .i64 (n2 : Int), .int .i64 (n3 : Int), .int .i64 (n4 : Int), .bool b5, .slice none 0 0, .slice none 0 0, .string ⟨#[]⟩, .bool b6] (.slice none 0 0) [] (.slice none 0 0) [] a7 bad7 X7) := HD6.out.grown hg hc
    have HP7 : Hid (∀ m, Got t m → (bad7 = false ∧ a7 = epos m 0) ∧ n7 = m.ents.length) := fun m hm => by
      obtain ⟨hb, ha⟩ := HP6.out m hm
      have r := Msgs.at_count hm
      rw [← ha] at r
      obtain ⟨q1, q2, q3⟩ := hex hb _ _ r
      exact ⟨⟨q3, q2⟩, q1⟩
    clear hex hc hg HP6 HD6
    go_wp2_with fail
    have HINV : Hid (∀ m, Got t m → 0 ≤ m.ents.length ∧ bad7 = false ∧ a7 = epos m 0 ∧ ([] : List EntL) = m.ents.take 0) := fun m hm => ⟨Nat.zero_le _, (HP7.out m hm).1.1, (HP7.out m hm).1.2, by simp⟩
    have HN7 : Hid (∀ m, Got t m → n7 = m.ents.length) := fun m hm => (HP7.out m hm).2
    clear HP7
    go_loopw [8, 9, 10, 11] (fun i _ _ _ wr => ∃ (k : Nat) (l : List EntL) (v8 : Value) (a : Nat) (bad : Bool), k ≤ 5 ∧ i = .int .i64 (k : Int) ∧ l.length = k ∧ Hid (∀ e ∈ l, e.data.size ≤ 1048576) ∧ Hid (DS w mb t #[.int .i64 ((x.toNat : Nat) : Int), .int .i64 ((y.toNat : Nat) : Int), .int .i64 ((z.toNat : Nat) : Int), .int .i64 (n1 : Int), .int .i64 (n2 : Int), .int .i64 (n3 : Int), .int .i64 (n4 : Int), .bool b5, v8, .slice none 0 0, .string ⟨#[]⟩, .bool b6] v8 l (.slice none 0 0) [] a bad wr) ∧ Hid (∀ m, Got t m → k ≤ m.ents.length ∧ bad = false ∧ a = epos m k ∧ l = m.ents.take k)) (fun i _ _ _ _ => 5 - (intOf i).toNat)
    case atStart => exact ⟨0, [], .slice none 0 0, a7, bad7, by omega, rfl, rfl, fun e he => (List.not_mem_nil he).elim, HD7, HINV⟩
    case round =>
      clear HINV HD7
      obtain ⟨k, l, v8, a, bad, hk5, rfl, hlk, HED, HD, HP⟩ := hrel
      obtain ⟨G, hG⟩ : ∃ G : Bool, G = (decide (k < n7) && (!bad && decide (k ≤ 4))) := ⟨_, rfl⟩
      have HGD : Hid (G = (decide (k < n7) && (!bad && decide (k ≤ 4)))) := hG
      clear hG
      have c2 := HD.out.cur.c2
      go_upto_region 14 with fail
      go_cut [69] (fun v wx => v = .bool G ∧ wx = wr)
      case first =>
        by_cases hkn : k < n7
        · have d1 : (k : Int) < (n7 : Int) := by omega
          cases bad with
          | true =>
            have HGF : Hid (G = false) := by show _ = _; rw [HGD.out]; simp
            go_wp2
            go_meet
            case rel => exact ⟨by rw [HGF.out], rfl⟩
          | false =>
            by_cases hk4 : k ≤ 4
            · have d2 : (k : Int) ≤ 4 := by omega
              have HGF : Hid (G = true) := by show _ = _; rw [HGD.out]; simp [hkn, hk4]
              go_wp2
              go_meet
              case rel => exact ⟨by rw [HGF.out], rfl⟩
            · have d2 : ¬ (k : Int) ≤ 4 := by omega
              have HGF : Hid (G = false) := by show _ = _; rw [HGD.out]; simp [hk4]
              go_wp2
              go_meet
              case rel => exact ⟨by rw [HGF.out], rfl⟩
        · have d1 : ¬ (k : Int) < (n7 : Int) := by omega
          have HGF : Hid (G = false) := by show _ = _; rw [HGD.out]; simp [hkn]
          go_wp2
          go_meet
          case rel => exact ⟨by rw [HGF.out], rfl⟩
      case rest =>
        obtain ⟨rfl, rfl⟩ := hcut
        clear c2
        cases G with
        | true =>
          have hG1 : (k < n7 ∧ bad = false) ∧ k ≤ 4 := by
            have := HGD.out.symm
            simp only [Bool.and_eq_true, decide_eq_true_eq, Bool.not_eq_true'] at this
            exact ⟨⟨this.1, this.2.1⟩, this.2.2⟩
          obtain ⟨⟨hkn, rfl⟩, hk4⟩ := hG1
          clear HGD
          go_wp2_with fail
          refine (short5_both hs _ false HD.out.cur).mono ?_
          rintro en X1 ⟨xs, a1, bad1, rfl, hxs, hc, hg, hex⟩
          have HD1 : Hid (DS w mb t #[.int .i64 ((x.toNat : Nat) : Int), .int .i64 ((y.toNat : Nat) : Int), .int .i64 ((z.toNat : Nat) : Int), .int .i64 (n1 : Int), .int .i64 (n2 : Int), .int .i64 (n3 : Int), .int .i64 (n4 : Int), .bool b5, v8, .slice none 0 0, .string ⟨#[]⟩, .bool b6] v8 l (.slice none 0 0) [] a1 bad1 X1) := HD.out.grown hg hc
          obtain ⟨ie, e, R, hRE⟩ := re_ex xs
          have HRE : Hid (∀ X, Calls Tryz.prog 18 #[.string xs] X fun en w' => en = .returned (.tuple #[.int .i64 (ie : Int), .agg #[.int .i64 e.term, .int .i64 e.kind, .string e.data], .bool R]) ∧ Below X.heap.size X w') := fun X => specRE_is (by omega) hRE X
          have HED2 : Hid (∀ e' ∈ l ++ [e], e'.data.size ≤ 1048576) := fun e' he => by
            rcases List.mem_append.1 he with he | he
            · exact HED.out e' he
            · rw [List.mem_singleton.1 he]
              have := re_data hRE
              omega
          have HP2 : Hid (∀ m, Got t m → k + 1 ≤ m.ents.length ∧ bad1 = false ∧ a1 = epos m (k + 1) ∧ l ++ [e] = m.ents.take (k + 1)) := fun m hm => by
            obtain ⟨p1, p2, p3, p4⟩ := HP.out m hm
            have hn := HN7.out m hm
            have hlt : k < m.ents.length := by omega
            have r := Msgs.at_ent hm hlt
            rw [← p3] at r
            obtain ⟨q1, q2, q3⟩ := hex rfl _ _ r
            subst q1
            refine ⟨hlt, q3, q2, ?_⟩
            rw [List.take_succ_eq_append_getElem hlt, ← p4, re_right hRE ((Msgs.fits hm.2).ents _ (List.getElem_mem hlt))]
          clear hex hc hg hRE HED HP HD hxs
          go_wp2_with fail
          refine (HRE.out _).mono ?_
          rintro en X2 ⟨rfl, hb2⟩
          have hD2 := HD1.out.below hb2
          obtain ⟨X3, hX3⟩ : ∃ X3, X3 = X2.alloc (Obj.cells #[.int .i64 e.term, .int .i64 e.kind, .string e.data] 44) := ⟨_, rfl⟩
          have hb3 : Below X2.heap.size X2 X3 := by rw [hX3]; exact (Below.refl _ _).alloc (Nat.le_refl _) _
          have HD3 : Hid (DS w mb t #[.int .i64 ((x.toNat : Nat) : Int), .int .i64 ((y.toNat : Nat) : Int), .int .i64 ((z.toNat : Nat) : Int), .int .i64 (n1 : Int), .int .i64 (n2 : Int), .int .i64 (n3 : Int), .int .i64 (n4 : Int), .bool b5, v8, .slice none 0 0, .string ⟨#[]⟩, .bool b6] v8 l (.slice none 0 0) [] a1 bad1 X3) := hD2.below hb3
          have x8 : X3.cell? ⟨mb, 8, none⟩ = some v8 := cell_of_row _ _ 8 _ _ _ HD3.out.msg
          have e3 : X3.heap[X2.heap.size]? = some (.cells #[.int .i64 e.term, .int .i64 e.kind, .string e.data] 44 (0, 0)) := by rw [hX3]; exact heap_alloc_new X2 _
          have y0 := cell_of_row _ _ 0 _ _ _ e3
          have y1 := cell_of_row _ _ 1 _ _ _ e3
          have y2 := cell_of_row _ _ 2 _ _ _ e3
          simp at y0 y1 y2
          have hown := HD3.out.ent
          have hsz := HD3.out.bel.size
          obtain ⟨va, vc, hv⟩ := own_slice hown
          subst hv
          go_upto_region 17 with fail
          rw [← hX3]
          obtain ⟨eb, heb⟩ : ∃ eb, eb = X2.heap.size := ⟨_, rfl⟩
          rw [← heb] at y0 y1 y2
          rw [← heb]
          clear heb hX3 hb3 hD2 hb2 e3 HRE HD1
          have HX4 : Hid (Below X3.heap.size X3 (X3.alloc (Obj.cells #[.int .i64 e.term, .int .i64 e.kind, .string e.data] 44))) := (Below.refl _ _).alloc (Nat.le_refl _) _
          go_wp2_with (at_builtin; refine wpList_app_en rfl _ _ rfl w.heap.size _ l (by rw [hlk]; rfl) hown e rfl (by omega) hsz ?_; intro v' X5 hown2 hgrow; obtain ⟨va2, vc2, hv2⟩ := own_slice hown2; subst hv2; have hD5 := DS.more (HD3.out.below HX4.out) hgrow hown2; have HD5 : Hid (_) := hD5; have z8 := cell_of_row _ _ 8 _ _ _ hD5.msg; have zf8 := frozen_of_row _ _ 8 _ _ hD5.msg; simp at z8; clear hD5 hown2 hgrow)
          have hl1 : (l ++ [e]).length = k + 1 := by rw [List.length_append, hlk]; rfl
          have hD6 := HD5.out.set 8 (.slice va2 (l ++ [e]).length vc2)
          rw [hl1] at hD6
          have HD6 : Hid (DS w mb t #[.int .i64 ((x.toNat : Nat) : Int), .int .i64 ((y.toNat : Nat) : Int), .int .i64 ((z.toNat : Nat) : Int), .int .i64 (n1 : Int), .int .i64 (n2 : Int), .int .i64 (n3 : Int), .int .i64 (n4 : Int), .bool b5, .slice va2 (k + 1) vc2, .slice none 0 0, .string ⟨#[]⟩, .bool b6] (.slice va2 (k + 1) vc2) (l ++ [e]) (.slice none 0 0) [] a1 bad1 (X5.setCell ⟨mb, 8, none⟩ (.slice va2 (k + 1) vc2))) := hD6
          go_roundw
          case rel => exact ⟨k + 1, l ++ [e], _, a1, bad1, by omega, by go_num, hl1, HED2, HD6, HP2⟩
          case measure => simp [intOf]; omega
        | false =>
          have HPE : Hid (∀ m, Got t m → bad = false ∧ a = pos m 10 ∧ l = m.ents) := fun m hm => by
            obtain ⟨p1, p2, p3, p4⟩ := HP.out m hm
            have hn := HN7.out m hm
            have h4 := (Msgs.fits hm.2).len
            have hge : m.ents.length ≤ k := by
              have := HGD.out.symm
              rw [p2] at this
              simp only [Bool.not_false, Bool.true_and, Bool.and_eq_false_iff, decide_eq_false_iff_not] at this
              omega
            obtain rfl : k = m.ents.length := by omega
            exact ⟨p2, by rw [p3, Msgs.epos_end], by rw [p4, List.take_of_length_le (Nat.le_refl _)]⟩
          have hl5 : l.length ≤ 5 := by omega
          clear HP HGD HN7
          go_wp2_with fail
          refine (short5_both hs _ bad HD.out.cur).mono ?_
          rintro en X1 ⟨xc, a1, bad1, rfl, hxs, hc, hg, hex⟩
          have HD1 : Hid (DS w mb t #[.int .i64 ((x.toNat : Nat) : Int), .int .i64 ((y.toNat : Nat) : Int), .int .i64 ((z.toNat : Nat) : Int), .int .i64 (n1 : Int), .int .i64 (n2 : Int), .int .i64 (n3 : Int), .int .i64 (n4 : Int), .bool b5, v8, .slice none 0 0, .string ⟨#[]⟩, .bool b6] v8 l (.slice none 0 0) [] a1 bad1 X1) := HD.out.grown hg hc
          obtain ⟨c, R, hRC⟩ := rc_ex xc
          have hcl := rc_len hRC
          have HRC : Hid (∀ X, Calls Tryz.prog 20 #[.string xc] X (RCPost X c R)) := fun X => specReadConf_is xc (by omega) c R hRC X
          have HPC : Hid (∀ m, Got t m → bad1 = false ∧ a1 = pos m 11 ∧ c = m.conf) := fun m hm => by
            obtain ⟨p1, p2, p3⟩ := HPE.out m hm
            have r := Msgs.at_short hm (k := 10) (Msgs.conf_small hm) rfl
            rw [← p2] at r
            obtain ⟨q1, q2, q3⟩ := hex p1 _ _ r
            subst q1
            exact ⟨q3, q2, rc_right hRC (Msgs.fits hm.2).conf⟩
          clear hex hc hg hRC hxs HD
          go_wp2_with fail
          refine (HRC.out _).mono ?_
          rintro en X2 ⟨v9, rfl, hown, hb2⟩
          have hD2 := HD1.out.conf hb2 hown
          have z9 := cell_of_row _ _ 9 _ _ _ hD2.msg
          have zf9 := frozen_of_row _ _ 9 _ _ hD2.msg
          simp at z9
          obtain ⟨wa, wcap, hv9⟩ := own_slice hown
          subst hv9
          obtain ⟨Y2, hY2⟩ : ∃ Y, Y = X2.setCell ⟨mb, 9, none⟩ (.slice wa c.length wcap) := ⟨_, rfl⟩
          obtain ⟨v9, hv9⟩ : ∃ v9, v9 = Value.slice wa c.length wcap := ⟨_, rfl⟩
          have HD3 : Hid (DS w mb t #[.int .i64 ((x.toNat : Nat) : Int), .int .i64 ((y.toNat : Nat) : Int), .int .i64 ((z.toNat : Nat) : Int), .int .i64 (n1 : Int), .int .i64 (n2 : Int), .int .i64 (n3 : Int), .int .i64 (n4 : Int), .bool b5, v8, v9, .string ⟨#[]⟩, .bool b6] v8 l v9 c a1 bad1 Y2) := by rw [hY2, hv9]; exact hD2.set 9 _
          clear hD2 hown hb2 HD1 HRC
          go_wp2_with fail
          rw [← hY2]
          clear hY2 z9 zf9
          refine (short5_both hs Y2 bad1 HD3.out.cur).mono ?_
          rintro en X3 ⟨xd, a2, bad2, rfl, hxd, hc, hg, hex⟩
          have hD4 := HD3.out.grown hg hc
          have HPD : Hid (∀ m, Got t m → bad2 = false ∧ xd = m.data) := fun m hm => by
            obtain ⟨p1, p2, p3⟩ := HPC.out m hm
            have r := Msgs.at_short hm (k := 11) (by have := (Msgs.fits hm.2).data; omega) rfl
            rw [← p2] at r
            obtain ⟨q1, q2, q3⟩ := hex p1 _ _ r
            exact ⟨q3, q1⟩
          have z10 := cell_of_row _ _ 10 _ _ _ hD4.msg
          have zf10 := frozen_of_row _ _ 10 _ _ hD4.msg
          simp at z10
          obtain ⟨Y3, hY3⟩ : ∃ Y, Y = X3.setCell ⟨mb, 10, none⟩ (.string xd) := ⟨_, rfl⟩
          have HD5 : Hid (DS w mb t #[.int .i64 ((x.toNat : Nat) : Int), .int .i64 ((y.toNat : Nat) : Int), .int .i64 ((z.toNat : Nat) : Int), .int .i64 (n1 : Int), .int .i64 (n2 : Int), .int .i64 (n3 : Int), .int .i64 (n4 : Int), .bool b5, v8, v9, .string xd, .bool b6] v8 l v9 c a2 bad2 Y3) := by rw [hY3]; exact hD4.set 10 _
          clear hD4 hex hc hg HD3
          go_upto_region 20 with fail
          rw [← hY3]
          clear hY3 z10 zf10
          obtain ⟨va, vc, hv8⟩ := own_slice HD5.out.ent
          subst hv8
          subst hv9
          obtain ⟨M, hM⟩ : ∃ M : MsgL, M = ⟨((x.toNat : Nat) : Int), ((y.toNat : Nat) : Int), ((z.toNat : Nat) : Int), (n1 : Int), (n2 : Int), (n3 : Int), (n4 : Int), b5, l, c, xd, b6⟩ := ⟨_, rfl⟩
          have HEQ : Hid (∀ m, Got t m → M = m) := fun m hm => by
            obtain ⟨q1, q2, q3⟩ := HHD.out m hm
            have r1 := HG1.out m hm
            have r2 := HG2.out m hm
            have r3 := HG3.out m hm
            have r4 := HG4.out m hm
            have r5 := HG5.out m hm
            have r6 := HG6.out m hm
            have r7 := (HPE.out m hm).2.2
            have r8 := (HPC.out m hm).2.2
            have r9 := (HPD.out m hm).2
            rw [hM]
            cases m
            simp only at q1 q2 q3 r1 r2 r3 r4 r5 r6 r7 r8 r9
            simp only [q1, q2, q3, r1, r2, r3, r4, r5, r6, r7, r8, r9]
          have HBD : Hid (∀ m, Got t m → bad2 = false) := fun m hm => (HPD.out m hm).1
          have HD6 : Hid (DS w mb t (msgC M va vc wa wcap) (.slice va M.ents.length vc) M.ents (.slice wa M.conf.length wcap) M.conf a2 bad2 Y3) := by rw [hM]; exact HD5.out
          have HME : Hid (M.ents.length ≤ 5 ∧ (∀ e ∈ M.ents, e.data.size ≤ 1048576) ∧ M.conf.length ≤ 4 ∧ M.data.size ≤ 1048576) := by
            rw [hM]
            exact ⟨hl5, HED.out, hcl, by show xd.size ≤ _; omega⟩
          clear HD5 HPE HPC HPD HHD HG1 HG2 HG3 HG4 HG5 HG6 hM
          obtain ⟨T, O, hTO, hO, hT⟩ := enc_parts M
          have HENC : Hid (Calls Tryz.prog 21 #[.agg (msgC M va vc wa wcap)] Y3 fun en w' => en = .returned (.tuple #[.string T, .bool O]) ∧ Below Y3.heap.size Y3 w') := by
            obtain ⟨ge, oe, he⟩ := en_own HD6.out.ent
            obtain ⟨gi, oi, hi⟩ := int_own HD6.out.cnf
            have q := specEnc_is (cap := vc) (capb := wcap) M (by have := HME.out.1; omega) HME.out.2.1 (by have := HME.out.2.2.1; omega) HME.out.2.2.2 Y3 he hi
            rw [hTO] at q
            exact q
          have HO : Hid (O = okM M) := hO
          have HT : Hid (O = true → T = Msgs.textS M) := hT
          clear hTO hO hT
          go_wp2_with (first | (refine wpList_loadA Tryz.isAgg25 Tryz.sizeOf25 rfl _ rfl mb (msgC M va vc wa wcap) 25 rfl HD6.out.msg rfl ?_) | fail)
          refine HENC.out.mono ?_
          rintro en X6 ⟨rfl, hb6⟩
          have HD7 : Hid (DS w mb t (msgC M va vc wa wcap) (.slice va M.ents.length vc) M.ents (.slice wa M.conf.length wcap) M.conf a2 bad2 X6) := HD6.out.below hb6
          have c2 := HD7.out.cur.c2
          clear hb6 HD6 HENC
          have HMC : Hid (∀ v ∈ (msgC M va vc wa wcap).toList, v.oneCell' = true) := msg_one M va vc wa wcap
          by_cases hgot : Got t M
          · obtain rfl : bad2 = false := HBD.out M hgot
            obtain rfl : O = true := by rw [HO.out]; exact hgot.2
            have hTt : T = t := by
              rw [HT.out rfl]
              apply Batches.by_inj
              rw [hgot.1]
              rfl
            subst hTt
            go_wp2_with (first | (refine wpList_loadA Tryz.isAgg25 Tryz.sizeOf25 rfl _ rfl mb (msgC M va vc wa wcap) 25 rfl HD7.out.msg rfl ?_) | (refine wpList_storeA Tryz.sizeOf25 rfl _ _ rfl w.heap.size (msgC M va vc wa wcap) zeroC 25 rfl rfl HD7.out.res rfl rfl HMC.out ?_) | fail)
            refine bodyPost_ret (result5 HD7.out.res rfl rfl rfl) rfl ⟨below_row HD7.out.bel (Nat.le_refl _) _, Or.inl ⟨M, va, vc, wa, wcap, hgot, HEQ.out, rfl, own_row HD7.out.ent _ _ (own_not HD7.out.ent HD7.out.res (by decide)), own_row HD7.out.cnf _ _ (own_not HD7.out.cnf HD7.out.res (by decide))⟩⟩
          · have HNO : Hid (∀ m, ¬ Got t m) := fun m hm => hgot (by rw [HEQ.out m hm]; exact hm)
            cases bad2 with
            | true =>
              go_wp2_with (first | (refine wpList_storeA Tryz.sizeOf25 rfl _ _ rfl w.heap.size zeroC zeroC 25 rfl rfl HD7.out.res rfl rfl zero_one ?_) | fail)
              refine bodyPost_ret (result5 HD7.out.res rfl rfl rfl) rfl ⟨below_row HD7.out.bel (Nat.le_refl _) _, Or.inr ⟨HNO.out, rfl⟩⟩
            | false =>
              cases O with
              | false =>
                go_wp2_with (first | (refine wpList_storeA Tryz.sizeOf25 rfl _ _ rfl w.heap.size zeroC zeroC 25 rfl rfl HD7.out.res rfl rfl zero_one ?_) | fail)
                refine bodyPost_ret (result5 HD7.out.res rfl rfl rfl) rfl ⟨below_row HD7.out.bel (Nat.le_refl _) _, Or.inr ⟨HNO.out, rfl⟩⟩
              | true =>
                have hne : T.toList ≠ t.toList := fun h => hgot ⟨by rw [← toList_by, ← h, toList_by, HT.out rfl]; rfl, HO.out.symm⟩
                have hne1 : (T.toList == t.toList) = false := beq_eq_false_iff_ne.2 hne
                have hne2 : (T.toList != t.toList) = true := by simp [bne, hne1]
                have hne3 : T ≠ t := fun h => hne (by rw [h])
                clear HO HT
                go_wp2_with (first | (refine wpList_storeA Tryz.sizeOf25 rfl _ _ rfl w.heap.size zeroC zeroC 25 rfl rfl HD7.out.res rfl rfl zero_one ?_) | fail)
                refine bodyPost_ret (result5 HD7.out.res rfl rfl rfl) rfl ⟨below_row HD7.out.bel (Nat.le_refl _) _, Or.inr ⟨HNO.out, rfl⟩⟩
end Go.Proofs.YtimacmijinblmaaGreat
