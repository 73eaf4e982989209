/- Contracts of library functions at this program: laid by program from theorems of the given library, no walk of ours. The call of strings.Clone: the same text. The call of the program's ReadShort, walked. What the walks share: rows that a call owns, regions that draw their order and whose calls lay memory of their own alone, a measure. -/
import Derived.Shelf.Small.Bits
import Derived.Shelf.Small.Strs
import Derived.Shelf.Small.Wraps
import Derived.Shelf.Strconv.Itoa0
import Derived.Shelf.Strconv.Itoa1
import Derived.Shelf.LaysM
import Derived.Shelf.Strconv.Itoa2
import Derived.Shelf.Strconv.Itoa3
import Derived.Shelf.Strconv.Clone
import Derived.Shelf.Sort.Plain
import Derived.Shelf.Strings.Prefix
import Derived.Shelf.Slices.Turned
import Derived.Ground.Names2Prog
import Derived.Shelf.Slices.Clone
import Derived.Shelf.Slices.In.SortNone
import Derived.Test.YtbcfiiilikkkeaaGreatDoorProg
import Derived.Test.YtbcfiiilikkkeaaGreatDoorVar
import Derived.Test.YtbcfiiilikkkeaaGreatDoorReadLaw
import Derived.BigQuiet
import Derived.Deep.RegionWith
import Derived.Deep.QuietTactic
import Derived.Deep.RegionHeld3
import Derived.Deep.RegionLaw
import Derived.Deep.AppendLies
namespace Go.Proofs
open Go.Shelf
def Tryz.lays103_ren : Go.Shelf.Ren := ⟨fun | 103 => 250 | 210 => 292 | 206 => 323 | n => n, fun | 9 => 9 | 4 => 4 | 24 => 87 | 3 => 3 | n => n, fun | n => n⟩
theorem Tryz.lays103 : Go.Proofs.Lays.n103 Tryz.prog Tryz.lays103_ren := {
  mixed := by kernel_rfl
  f103 := Tryz.func250.trans (congrArg some (by kernel_rfl))
  f206 := Tryz.func323.trans (congrArg some (by kernel_rfl))
  f210 := Tryz.func292.trans (congrArg some (by kernel_rfl))
  t3 := Tryz.underlying3
  a3 := Tryz.isAgg3
  z3 := Tryz.sizeOf3
  v3 := Tryz.zeroValue3
  t4 := Tryz.underlying4
  a4 := Tryz.isAgg4
  z4 := Tryz.sizeOf4
  v4 := Tryz.zeroValue4
  t9 := Tryz.underlying9
  a9 := Tryz.isAgg9
  z9 := Tryz.sizeOf9
  v9 := Tryz.zeroValue9
  t24 := Tryz.underlying87
  a24 := Tryz.isAgg87
  z24 := Tryz.sizeOf87
  v24 := Tryz.zeroValue87 }
open Go.RowKit in
theorem Tryz.strings_CutPrefix (s p : ByteArray) (w : World) :
    Calls Tryz.prog 250 #[.string s, .string p] w fun e w' => e = .returned (.tuple #[.string ⟨(Lib.trimPrefix s.data.toList p.data.toList).toArray⟩, .bool (Lib.hasPrefix s.data.toList p.data.toList)]) ∧ w' = w := Any.strings_CutPrefix Tryz.lays103 s p w
def Tryz.laysM246_ren : Go.Shelf.Ren := ⟨fun | 246 => 311 | 283 => 332 | 284 => 333 | 285 => 334 | 286 => 335 | 129 => 307 | 317 => 341 | 318 => 342 | 319 => 343 | 320 => 344 | 337 => 346 | 338 => 347 | n => n, fun | 2 => 2 | 3 => 3 | 9 => 9 | 4 => 4 | 171 => 386 | 0 => 0 | 53 => 274 | 37 => 62 | 5 => 5 | 173 => 388 | 212 => 396 | 51 => 178 | 20 => 20 | 213 => 397 | 46 => 217 | 232 => 399 | 233 => 400 | n => n, fun | 17 => 3 | 18 => 4 | 19 => 5 | n => n⟩
def Tryz.laysM243_ren : Go.Shelf.Ren := ⟨fun | 243 => 282 | 246 => 311 | 283 => 332 | 284 => 333 | 285 => 334 | 286 => 335 | 129 => 307 | 317 => 341 | 318 => 342 | 319 => 343 | 320 => 344 | 337 => 346 | 338 => 347 | n => n, fun | 3 => 3 | 9 => 9 | 2 => 2 | 4 => 4 | 171 => 386 | 0 => 0 | 53 => 274 | 37 => 62 | 5 => 5 | 173 => 388 | 212 => 396 | 51 => 178 | 20 => 20 | 213 => 397 | 46 => 217 | 232 => 399 | 233 => 400 | n => n, fun | 17 => 3 | 18 => 4 | 19 => 5 | n => n⟩
def Tryz.laysM171_ren : Go.Shelf.Ren := ⟨fun | 171 => 233 | 243 => 282 | 246 => 311 | 283 => 332 | 284 => 333 | 285 => 334 | 286 => 335 | 129 => 307 | 317 => 341 | 318 => 342 | 319 => 343 | 320 => 344 | 337 => 346 | 338 => 347 | n => n, fun | 3 => 3 | 9 => 9 | 2 => 2 | 4 => 4 | 171 => 386 | 0 => 0 | 53 => 274 | 37 => 62 | 5 => 5 | 173 => 388 | 212 => 396 | 51 => 178 | 20 => 20 | 213 => 397 | 46 => 217 | 232 => 399 | 233 => 400 | n => n, fun | 17 => 3 | 18 => 4 | 19 => 5 | n => n⟩
theorem Tryz.laysM171 : Go.Proofs.LaysM.n171 Tryz.prog Tryz.laysM171_ren := {
  mixed := by kernel_rfl
  f129 := Tryz.func307.trans (congrArg some (by kernel_rfl))
  f171 := Tryz.func233.trans (congrArg some (by kernel_rfl))
  f243 := Tryz.func282.trans (congrArg some (by kernel_rfl))
  f246 := Tryz.func311.trans (congrArg some (by kernel_rfl))
  f283 := Tryz.func332.trans (congrArg some (by kernel_rfl))
  f284 := Tryz.func333.trans (congrArg some (by kernel_rfl))
  f285 := Tryz.func334.trans (congrArg some (by kernel_rfl))
  f286 := Tryz.func335.trans (congrArg some (by kernel_rfl))
  f317 := Tryz.func341.trans (congrArg some (by kernel_rfl))
  f318 := Tryz.func342.trans (congrArg some (by kernel_rfl))
  f319 := Tryz.func343.trans (congrArg some (by kernel_rfl))
  f320 := Tryz.func344.trans (congrArg some (by kernel_rfl))
  f337 := Tryz.func346.trans (congrArg some (by kernel_rfl))
  f338 := Tryz.func347.trans (congrArg some (by kernel_rfl))
  t0 := Tryz.underlying0
  a0 := Tryz.isAgg0
  z0 := Tryz.sizeOf0
  v0 := Tryz.zeroValue0
  t2 := Tryz.underlying2
  a2 := Tryz.isAgg2
  z2 := Tryz.sizeOf2
  v2 := Tryz.zeroValue2
  t3 := Tryz.underlying3
  a3 := Tryz.isAgg3
  z3 := Tryz.sizeOf3
  v3 := Tryz.zeroValue3
  t4 := Tryz.underlying4
  a4 := Tryz.isAgg4
  z4 := Tryz.sizeOf4
  v4 := Tryz.zeroValue4
  t5 := Tryz.underlying5
  a5 := Tryz.isAgg5
  z5 := Tryz.sizeOf5
  v5 := Tryz.zeroValue5
  t9 := Tryz.underlying9
  a9 := Tryz.isAgg9
  z9 := Tryz.sizeOf9
  v9 := Tryz.zeroValue9
  t20 := Tryz.underlying20
  a20 := Tryz.isAgg20
  z20 := Tryz.sizeOf20
  v20 := Tryz.zeroValue20
  t37 := Tryz.underlying62
  a37 := Tryz.isAgg62
  z37 := Tryz.sizeOf62
  v37 := Tryz.zeroValue62
  t46 := Tryz.underlying217
  a46 := Tryz.isAgg217
  z46 := Tryz.sizeOf217
  v46 := Tryz.zeroValue217
  t51 := Tryz.underlying178
  a51 := Tryz.isAgg178
  z51 := Tryz.sizeOf178
  v51 := Tryz.zeroValue178
  t53 := Tryz.underlying274
  a53 := Tryz.isAgg274
  z53 := Tryz.sizeOf274
  v53 := Tryz.zeroValue274
  t171 := Tryz.underlying386
  a171 := Tryz.isAgg386
  z171 := Tryz.sizeOf386
  v171 := Tryz.zeroValue386
  t173 := Tryz.underlying388
  a173 := Tryz.isAgg388
  z173 := Tryz.sizeOf388
  v173 := Tryz.zeroValue388
  t212 := Tryz.underlying396
  a212 := Tryz.isAgg396
  z212 := Tryz.sizeOf396
  v212 := Tryz.zeroValue396
  t213 := Tryz.underlying397
  a213 := Tryz.isAgg397
  z213 := Tryz.sizeOf397
  t232 := Tryz.underlying399
  a232 := Tryz.isAgg399
  z232 := Tryz.sizeOf399
  v232 := Tryz.zeroValue399
  t233 := Tryz.underlying400
  a233 := Tryz.isAgg400
  z233 := Tryz.sizeOf400
  v233 := Tryz.zeroValue400
  g17 := by kernel_rfl
  g18 := by kernel_rfl
  g19 := by kernel_rfl
  i0 := by kernel_rfl
  i2 := by kernel_rfl
  i3 := by kernel_rfl
  i4 := by kernel_rfl
  i5 := by kernel_rfl
  i9 := by kernel_rfl
  i20 := by kernel_rfl
  i37 := by kernel_rfl
  i46 := by kernel_rfl
  i51 := by kernel_rfl
  i53 := by kernel_rfl
  i171 := by kernel_rfl
  i173 := by kernel_rfl
  i212 := by kernel_rfl
  i232 := by kernel_rfl
  i233 := by kernel_rfl
  m17 := by kernel_rfl
  m18 := by kernel_rfl
  m19 := by kernel_rfl }
open Go.RowKit Go.Sort Go.Lib in
theorem Tryz.strconv_Itoa (n : Int) (h0 : -9223372036854775808 ≤ n) (h1 : n ≤ 9223372036854775807) (w : World) (htab : Lib.TabIs Tryz.prog w "internal/strconv.uint64pow10" .u64 Lib.pow10Tab) :
    Calls Tryz.prog 233 #[.int .i64 n] w fun e w' => e = .returned (.string ⟨(Lib.itoa n).toArray⟩) ∧ ∃ k os, w' = grow (w.drewN k) os := Any.strconv_Itoa Tryz.laysM171 n h0 h1 w htab
def Tryz.laysM316_ren : Go.Shelf.Ren := ⟨fun | 316 => 157 | n => n, fun | 9 => 9 | 3 => 3 | 4 => 4 | 37 => 62 | 0 => 0 | 127 => 246 | 5 => 5 | n => n, fun | n => n⟩
theorem Tryz.laysM316 : Go.Proofs.LaysM.n316 Tryz.prog Tryz.laysM316_ren := {
  mixed := by kernel_rfl
  f316 := Tryz.func157.trans (congrArg some (by kernel_rfl))
  t0 := Tryz.underlying0
  a0 := Tryz.isAgg0
  z0 := Tryz.sizeOf0
  v0 := Tryz.zeroValue0
  t3 := Tryz.underlying3
  a3 := Tryz.isAgg3
  z3 := Tryz.sizeOf3
  v3 := Tryz.zeroValue3
  t4 := Tryz.underlying4
  a4 := Tryz.isAgg4
  z4 := Tryz.sizeOf4
  v4 := Tryz.zeroValue4
  t9 := Tryz.underlying9
  a9 := Tryz.isAgg9
  z9 := Tryz.sizeOf9
  v9 := Tryz.zeroValue9
  t37 := Tryz.underlying62
  a37 := Tryz.isAgg62
  z37 := Tryz.sizeOf62
  v37 := Tryz.zeroValue62
  t127 := Tryz.underlying246
  a127 := Tryz.isAgg246
  z127 := Tryz.sizeOf246
  v127 := Tryz.zeroValue246
  t5 := Tryz.underlying5
  a5 := Tryz.isAgg5
  z5 := Tryz.sizeOf5
  v5 := Tryz.zeroValue5
  i0 := by kernel_rfl
  i3 := by kernel_rfl
  i4 := by kernel_rfl
  i5 := by kernel_rfl
  i9 := by kernel_rfl
  i37 := by kernel_rfl
  i127 := by kernel_rfl }
open Go.RowKit in
theorem Tryz.stringslite_Clone (s : ByteArray) (w : World) (hlim : s.size ≤ 281474976710656) :
    Calls Tryz.prog 157 #[.string s] w fun e w' => e = .returned (.string s) ∧ Below w.heap.size w w' := Any.stringslite_Clone Tryz.laysM316 s w hlim
def Tryz.lays190_ren : Go.Shelf.Ren := ⟨fun | 190 => 242 | 125 => 277 | 258 => 287 | 128 => 306 | 129 => 307 | 302 => 312 | 303 => 313 | 304 => 314 | 305 => 315 | 306 => 316 | 307 => 317 | 308 => 318 | 309 => 319 | 310 => 320 | 333 => 336 | 329 => 325 | 330 => 326 | 334 => 337 | 335 => 338 | 336 => 339 | 344 => 345 | n => n, fun | 31 => 158 | 9 => 9 | 3 => 3 | 46 => 217 | 0 => 0 | 51 => 178 | 53 => 274 | 4 => 4 | 183 => 361 | 182 => 360 | 131 => 237 | 5 => 5 | 218 => 378 | 222 => 381 | 228 => 392 | 229 => 393 | n => n, fun | n => n⟩
theorem Tryz.lays190 : Go.Proofs.Lays.n190 Tryz.prog Tryz.lays190_ren := {
  mixed := by kernel_rfl
  f125 := Tryz.func277.trans (congrArg some (by kernel_rfl))
  f128 := Tryz.func306.trans (congrArg some (by kernel_rfl))
  f129 := Tryz.func307.trans (congrArg some (by kernel_rfl))
  f190 := Tryz.func242.trans (congrArg some (by kernel_rfl))
  f258 := Tryz.func287.trans (congrArg some (by kernel_rfl))
  f302 := Tryz.func312.trans (congrArg some (by kernel_rfl))
  f303 := Tryz.func313.trans (congrArg some (by kernel_rfl))
  f304 := Tryz.func314.trans (congrArg some (by kernel_rfl))
  f305 := Tryz.func315.trans (congrArg some (by kernel_rfl))
  f306 := Tryz.func316.trans (congrArg some (by kernel_rfl))
  f307 := Tryz.func317.trans (congrArg some (by kernel_rfl))
  f308 := Tryz.func318.trans (congrArg some (by kernel_rfl))
  f309 := Tryz.func319.trans (congrArg some (by kernel_rfl))
  f310 := Tryz.func320.trans (congrArg some (by kernel_rfl))
  f329 := Tryz.func325.trans (congrArg some (by kernel_rfl))
  f330 := Tryz.func326.trans (congrArg some (by kernel_rfl))
  f333 := Tryz.func336.trans (congrArg some (by kernel_rfl))
  f334 := Tryz.func337.trans (congrArg some (by kernel_rfl))
  f335 := Tryz.func338.trans (congrArg some (by kernel_rfl))
  f336 := Tryz.func339.trans (congrArg some (by kernel_rfl))
  f344 := Tryz.func345.trans (congrArg some (by kernel_rfl))
  t0 := Tryz.underlying0
  a0 := Tryz.isAgg0
  z0 := Tryz.sizeOf0
  v0 := Tryz.zeroValue0
  t3 := Tryz.underlying3
  a3 := Tryz.isAgg3
  z3 := Tryz.sizeOf3
  v3 := Tryz.zeroValue3
  t4 := Tryz.underlying4
  a4 := Tryz.isAgg4
  z4 := Tryz.sizeOf4
  v4 := Tryz.zeroValue4
  t5 := Tryz.underlying5
  a5 := Tryz.isAgg5
  z5 := Tryz.sizeOf5
  v5 := Tryz.zeroValue5
  t9 := Tryz.underlying9
  a9 := Tryz.isAgg9
  z9 := Tryz.sizeOf9
  v9 := Tryz.zeroValue9
  t31 := Tryz.underlying158
  a31 := Tryz.isAgg158
  z31 := Tryz.sizeOf158
  v31 := Tryz.zeroValue158
  t46 := Tryz.underlying217
  a46 := Tryz.isAgg217
  z46 := Tryz.sizeOf217
  v46 := Tryz.zeroValue217
  t51 := Tryz.underlying178
  a51 := Tryz.isAgg178
  z51 := Tryz.sizeOf178
  v51 := Tryz.zeroValue178
  t53 := Tryz.underlying274
  a53 := Tryz.isAgg274
  z53 := Tryz.sizeOf274
  v53 := Tryz.zeroValue274
  t131 := Tryz.underlying237
  a131 := Tryz.isAgg237
  z131 := Tryz.sizeOf237
  v131 := Tryz.zeroValue237
  t182 := Tryz.underlying360
  a182 := Tryz.isAgg360
  z182 := Tryz.sizeOf360
  v182 := Tryz.zeroValue360
  t183 := Tryz.underlying361
  a183 := Tryz.isAgg361
  z183 := Tryz.sizeOf361
  v183 := Tryz.zeroValue361
  t218 := Tryz.underlying378
  a218 := Tryz.isAgg378
  z218 := Tryz.sizeOf378
  v218 := Tryz.zeroValue378
  t222 := Tryz.underlying381
  a222 := Tryz.isAgg381
  z222 := Tryz.sizeOf381
  v222 := Tryz.zeroValue381
  t228 := Tryz.underlying392
  a228 := Tryz.isAgg392
  z228 := Tryz.sizeOf392
  v228 := Tryz.zeroValue392
  t229 := Tryz.underlying393
  a229 := Tryz.isAgg393
  z229 := Tryz.sizeOf393
  v229 := Tryz.zeroValue393 }
open Go.Sort Go.RowKit in
theorem Tryz.slices_Sort_string (blk off cap : Nat) (ss : List (List UInt8)) (w : World) (hH : Holds encStr w blk off ss.toArray) (hblk : blk < w.heap.size) (hsz : ss.length < 4611686018427387904) :
    Calls Tryz.prog 242 #[.slice (some ⟨blk, off, none⟩) ss.length cap] w fun e w' =>
      e = .returned (.tuple #[]) ∧ ∃ n os, w' = grow (putRow encStr (Sort.ahead w n) blk off (ss.mergeSort fun x y => decide (x ≤ y)).toArray) os := Any.slices_Sort_string Tryz.lays190 blk off cap ss w hH hblk hsz
def Tryz.lays107_ren : Go.Shelf.Ren := ⟨fun | 107 => 209 | 108 => 252 | n => n, fun | 28 => 25 | 3 => 3 | 4 => 4 | 0 => 0 | n => n, fun | n => n⟩
theorem Tryz.lays107 : Go.Proofs.Lays.n107 Tryz.prog Tryz.lays107_ren := {
  mixed := by kernel_rfl
  f107 := Tryz.func209.trans (congrArg some (by kernel_rfl))
  f108 := Tryz.func252.trans (congrArg some (by kernel_rfl))
  t0 := Tryz.underlying0
  a0 := Tryz.isAgg0
  z0 := Tryz.sizeOf0
  v0 := Tryz.zeroValue0
  t3 := Tryz.underlying3
  a3 := Tryz.isAgg3
  z3 := Tryz.sizeOf3
  v3 := Tryz.zeroValue3
  t4 := Tryz.underlying4
  a4 := Tryz.isAgg4
  z4 := Tryz.sizeOf4
  v4 := Tryz.zeroValue4
  t28 := Tryz.underlying25
  a28 := Tryz.isAgg25
  z28 := Tryz.sizeOf25
  v28 := Tryz.zeroValue25 }
open Go.Lib in
theorem Tryz.slices_Contains_int (b off n c : Nat) (zs : List Int) (x : Int) (w : World) (hz : n ≤ zs.length) (hbig : n ≤ 9223372036854775807) (hc : ∀ j, j < zs.length → w.cell? ⟨b, off + j, none⟩ = some (.int .i64 (zs.getD j 0))) :
    Calls Tryz.prog 209 #[.slice (some ⟨b, off, none⟩) n c, .int .i64 x] w fun e w' => e = .returned (.bool ((zs.take n).contains x)) ∧ w' = w := Any.slices_Contains_int Tryz.lays107 b off n c zs x w hz hbig hc
end Go.Proofs
namespace Go.Proofs.YtbcfiiilikkkeaaGreatDoor
open Go.RowKit

set_option maxHeartbeats 400000 in
theorem clone_any (s : ByteArray) (h : s.size ≤ 281474976710656) (w : World) :
    Calls Tryz.prog 95 #[.string s] w fun e w' => e = .returned (.string s) ∧ Below w.heap.size w w' := by
  go_enter Tryz.func95, Tryz.ntmps95
  go_wp2_with (go_at_call 157; refine (Tryz.stringslite_Clone s _ h).mono ?_; rintro e w1 ⟨rfl, hb1⟩)
  go_ret
  exact ⟨rfl, hb1⟩
end Go.Proofs.YtbcfiiilikkkeaaGreatDoor
namespace Go.Proofs.YtbcfiiilikkkeaaGreatDoor
open Go.RowKit

set_option maxHeartbeats 400000 in
theorem implRS_none {s : ByteArray} {x : Int} (hs : s.size ≤ 1048576) (h : rdZ s x = none) (w : World) :
    Calls Tryz.prog 330 #[.string s, .int .i64 x] w fun e w' => e = .returned (.tuple #[.string ⟨#[]⟩, .int .i64 0, .bool false]) ∧ Below w.heap.size w w' := by
  have HR : Hid (_ = _) := h
  clear h
  go_enter Tryz.func330, Tryz.ntmps330
  go_wp2_with (go_at_call 288; refine (implRead_none hs HR.out _).mono ?_; rintro e w1 ⟨rfl, rfl⟩)
  go_ret3
  exact ⟨rfl, Below.refl _ _⟩
set_option maxHeartbeats 400000 in
theorem implRS_no {s : ByteArray} {x : Int} {n k : Nat} (hs : s.size ≤ 1048576) (h : rdZ s x = some (n, k)) (hk : k ≤ s.size) (hn : 20000 < n ∨ s.size < k + n) (hn2 : n ≤ 1000000000) (w : World) :
    Calls Tryz.prog 330 #[.string s, .int .i64 x] w fun e w' => e = .returned (.tuple #[.string ⟨#[]⟩, .int .i64 0, .bool false]) ∧ Below w.heap.size w w' := by
  have HR : Hid (_ = _) := h
  clear h
  by_cases h1 : 20000 < n
  · clear hn
    go_enter Tryz.func330, Tryz.ntmps330
    go_wp2_with (go_at_call 288; refine (implRead_some hs HR.out _).mono ?_; rintro e w1 ⟨rfl, rfl⟩)
    go_ret3
    exact ⟨rfl, Below.refl _ _⟩
  · have h2 : (s.size : Int) - (k : Int) < (n : Int) := by omega
    clear hn
    go_enter Tryz.func330, Tryz.ntmps330
    go_wp2_with (go_at_call 288; refine (implRead_some hs HR.out _).mono ?_; rintro e w1 ⟨rfl, rfl⟩)
    go_ret3
    exact ⟨rfl, Below.refl _ _⟩
set_option maxHeartbeats 400000 in
theorem implRS_yes {s : ByteArray} {x : Int} {n k : Nat} (hs : s.size ≤ 1048576) (h : rdZ s x = some (n, k)) (hn : n ≤ 20000) (hk : k + n ≤ s.size) (w : World) :
    Calls Tryz.prog 330 #[.string s, .int .i64 x] w fun e w' => e = .returned (.tuple #[.string (s.extract k (k + n)), .int .i64 ((k : Int) + (n : Int)), .bool true]) ∧ Below w.heap.size w w' := by
  have HR : Hid (_ = _) := h
  clear h
  have hsl : ∀ wx, (Instr.slice 9 (.string s) (some (.int .i64 (k : Int))) (some (.int .i64 ((k : Int) + (n : Int)))) none).run Tryz.prog wx = .ok (.string (s.extract k (k + n))) wx := fun wx => by
    rw [run_slice_string wx 9 s .i64 .i64 _ _ Tryz.underlying9 (by omega) (by omega) (by omega)]
    congr 2
  have hx : (s.extract k (k + n)).size ≤ 281474976710656 := by rw [ByteArray.size_extract]; omega
  have h2 : ¬ (s.size : Int) - (k : Int) < (n : Int) := by omega
  go_enter Tryz.func330, Tryz.ntmps330
  go_wp2_with (first | (go_at_call 288; refine (implRead_some hs HR.out _).mono ?_; rintro e w1 ⟨rfl, rfl⟩) | (go_at_call 95; refine (clone_any _ hx _).mono ?_; rintro e w2 ⟨rfl, hb2⟩))
  go_ret3
  exact ⟨rfl, hb2⟩

end Go.Proofs.YtbcfiiilikkkeaaGreatDoor
namespace Go.Proofs.YtbcfiiilikkkeaaGreatDoor
open Go.RowKit

/-- A world that has all of W's memory as it was. -/
structure Abv (W : World) where
  w : World
  b : Below W.heap.size W w
theorem Abv.ne (W : World) : Nonempty (Abv W) := ⟨⟨W, Below.refl _ _⟩⟩
theorem Abv.cell {W : World} {p : Addr} {v : Value} (h : W.cell? p = some v) (x : Abv W) : x.w.cell? p = some v := by
  rw [x.b.cell (p := p) (World.block_lt_of_cell? W _ h)]; exact h
theorem calls_above {P : Program} {f : FuncId} {args : Array Value} {W : World} {v : Value} {x : Abv W} (h : Calls P f args x.w fun e w' => e = .returned v ∧ Below x.w.heap.size x.w w') :
    Calls P f args x.w fun e w'' => e = .returned v ∧ ∃ y : Abv W, w'' = y.w :=
  h.mono fun _ w' ⟨he, hb⟩ => ⟨he, ⟨w', x.b.trans (hb.mono x.b.size)⟩, rfl⟩
theorem calls_above_same {P : Program} {f : FuncId} {args : Array Value} {W : World} {v : Value} {x : Abv W} (h : Calls P f args x.w fun e w' => e = .returned v ∧ x.w = w') :
    Calls P f args x.w fun e w'' => e = .returned v ∧ ∃ y : Abv W, w'' = y.w :=
  h.mono fun _ _ ⟨he, hb⟩ => ⟨he, x, hb.symm⟩
theorem wp_region_above {P : Program} {id : Nat} {Q : Exit → Act → World → Prop} {a : Act} {w : World} {l : List Oper} (hm : P.follows .mixedOrders = true) (hB : Region.lexB .any l.toArray = true)
    (h : wpQuiet P l.toArray (fun w' => ∃ x : Abv w, w' = x.w) (fun a' => ∀ w', (∃ x : Abv w, w' = x.w) → Q .normal a' w') l a) : (Code.region id l.toArray true).wp P Q a w :=
  wp_region_quiet (C := fun w' => ∃ x : Abv w, w' = x.w) hm hB ⟨⟨w.drew, (Below.refl _ _).drew⟩, rfl⟩ (by simpa using h)

theorem own_kept {B : Nat} {e : TypeId} {k : Nat} {v : Value} {n : Nat} {xs : List Value} {w w' : World} (h : w.ownsRow B e k v n xs) (hb : Below w.heap.size w w') : w'.ownsRow B e k v n xs := by
  refine ⟨h.1, ?_⟩
  rcases h.2 with h1 | ⟨g, cap, cur, h2, hg, hh, h3⟩
  · exact .inl h1
  · exact .inr ⟨g, cap, cur, h2, hg, by rw [hb.block g (Array.getElem?_eq_some_iff.1 hh).1]; exact hh, h3⟩
theorem take_set_step {α : Type} {pre l : List α} {k : Nat} {x : α} (hk : k < l.length) (hl : pre.length = l.length) (h : pre.take k = l.take k) (hx : l[k] = x) : (pre.set k x).take (k + 1) = l.take (k + 1) := by
  rw [List.take_succ_eq_append_getElem hk, List.take_succ_eq_append_getElem (by rw [List.length_set]; omega), List.take_set_of_le (Nat.le_refl _), h, hx]
  simp
theorem grown_set (w : World) (g j : Nat) (v : Value) : w.grownBy (w.setCell ⟨g, j, none⟩ v) (some g) :=
  ⟨rfl, rfl, rfl, by simp [World.setCell], fun k _ hk => Below.heap_setCell w ⟨g, j, none⟩ v k (fun e => hk (by simp [e]))⟩
theorem own_set {B : Nat} {e : TypeId} {k : Nat} {v : Value} {n : Nat} {xs : List Value} {w : World} (h : w.ownsRow B e k v n xs) (g j : Nat) (x : Value) (hne : v.ownBlock ≠ some g) : (w.setCell ⟨g, j, none⟩ x).ownsRow B e k v n xs :=
  h.kept (grown_set w g j x) (Or.inr hne)
theorem own_mono {w : World} {base base' : Nat} {t : TypeId} {sz : Nat} {v : Value} {n : Nat} {xs : List Value} (h : w.ownsRow base t sz v n xs) (hb : base' ≤ base) : w.ownsRow base' t sz v n xs := by
  refine ⟨h.1, ?_⟩
  rcases h.2 with h1 | ⟨g, cap, cur, h2, hg, h3⟩
  · exact .inl h1
  · exact .inr ⟨g, cap, cur, h2, Nat.le_trans hb hg, h3⟩
theorem own_below' {w w' : World} {g : Nat} (h : Below w.heap.size w w') : w.grownBy w' (some g) := ⟨h.os, h.tape, h.output, h.size, fun k hk _ => h.block k hk⟩
theorem below_drewN {b : Nat} {w w' : World} (h : Below b w w') : ∀ n, Below b w (w'.drewN n)
  | 0 => h
  | n + 1 => (below_drewN h n).drew
theorem ans_no {R : Bool} {p : Prop} (h : R = true ↔ p) (hp : ¬ p) : R = false := by
  cases R with
  | false => rfl
  | true => exact absurd (h.1 rfl) hp
theorem two_set {W : World} {Z : Nat} {a0 a1 : Value} {t : TypeId} (h : W.heap[Z]? = some (.cells #[a0, a1] t (0, 0))) (v0 v1 : Value) :
    ((W.setCell ⟨Z, 0, none⟩ v0).setCell ⟨Z, 1, none⟩ v1).heap[Z]? = some (.cells #[v0, v1] t (0, 0)) := by
  have h1 := heap_setCell_same W Z 0 _ t v0 h
  have h2 := heap_setCell_same _ Z 1 _ t v1 h1
  simpa using h2
theorem two_cell {W : World} {Z : Nat} {a0 a1 : Value} {t : TypeId} (h : W.heap[Z]? = some (.cells #[a0, a1] t (0, 0))) (v0 v1 : Value) :
    let L := (W.setCell ⟨Z, 0, none⟩ v0).setCell ⟨Z, 1, none⟩ v1
    L.cell? ⟨Z, 0, none⟩ = some v0 ∧ L.cell? ⟨Z, 1, none⟩ = some v1 :=
  have h4 := two_set h v0 v1
  ⟨cell_of_row _ _ 0 _ _ _ h4, cell_of_row _ _ 1 _ _ _ h4⟩
theorem three_set {W : World} {Z : Nat} {a0 a1 a2 : Value} {t : TypeId} (h : W.heap[Z]? = some (.cells #[a0, a1, a2] t (0, 0))) (v0 v1 v2 : Value) :
    (((W.setCell ⟨Z, 0, none⟩ v0).setCell ⟨Z, 1, none⟩ v1).setCell ⟨Z, 2, none⟩ v2).heap[Z]? = some (.cells #[v0, v1, v2] t (0, 0)) := by
  have h1 := heap_setCell_same W Z 0 _ t v0 h
  have h2 := heap_setCell_same _ Z 1 _ t v1 h1
  have h3 := heap_setCell_same _ Z 2 _ t v2 h2
  simpa using h3
theorem three_cell {W : World} {Z : Nat} {a0 a1 a2 : Value} {t : TypeId} (h : W.heap[Z]? = some (.cells #[a0, a1, a2] t (0, 0))) (v0 v1 v2 : Value) :
    let L := ((W.setCell ⟨Z, 0, none⟩ v0).setCell ⟨Z, 1, none⟩ v1).setCell ⟨Z, 2, none⟩ v2
    L.cell? ⟨Z, 0, none⟩ = some v0 ∧ L.cell? ⟨Z, 1, none⟩ = some v1 ∧ L.cell? ⟨Z, 2, none⟩ = some v2 :=
  have h4 := three_set h v0 v1 v2
  ⟨cell_of_row _ _ 0 _ _ _ h4, cell_of_row _ _ 1 _ _ _ h4, cell_of_row _ _ 2 _ _ _ h4⟩
theorem set_far {W : World} {R Z : Nat} {o : Obj} (h : W.heap[Z]? = some o) (hne : Z ≠ R) (j : Nat) (v : Value) : (W.setCell ⟨R, j, none⟩ v).heap[Z]? = some o := (Below.heap_setCell W ⟨R, j, none⟩ v Z (by simpa using hne)).trans h
/-- What is left of a measure, or -1. -/
def Left (left n : Nat) (x : Int) : Prop := (n ≤ left ∧ x = ((left - n : Nat) : Int)) ∨ (¬ n ≤ left ∧ x = -1)
theorem grown_drew {w w' : World} {row : Option Nat} (h : w.grownBy w' row) : w.grownBy w'.drew row := ⟨h.os, h.tape, h.output, h.size, h.block⟩
theorem grown_drewN {w w' : World} {row : Option Nat} (h : w.grownBy w' row) (n : Nat) : w.grownBy (w'.drewN n) row := ⟨h.os, h.tape, h.output, h.size, h.block⟩
theorem grown_keep {w w' : World} {k g : Nat} {o : Obj} (h : w.heap[k]? = some o) (hg : w.grownBy w' (some g)) (hne : k ≠ g) : w'.heap[k]? = some o :=
  (hg.block k (Array.getElem?_eq_some_iff.1 h).1 (fun e => hne (Option.some.inj e))).trans h
theorem grown_alloc {w : World} (o : Obj) (g : Nat) : w.grownBy (w.alloc o) (some g) := own_below' ((Below.refl _ _).alloc (Nat.le_refl _) _)
theorem grown_new {w W : World} {g k : Nat} (h : w.grownBy W (some g)) (hk : w.heap.size ≤ k) (j : Nat) (v : Value) : w.grownBy (W.setCell ⟨k, j, none⟩ v) (some g) := h.andThen (grown_set W k j v) (fun r e => Or.inl (by cases e; exact hk))
theorem own_slice {w : World} {base : Nat} {t : TypeId} {sz : Nat} {v : Value} {n : Nat} {xs : List Value} (h : w.ownsRow base t sz v n xs) : ∃ a c, v = .slice a n c := by
  rcases h.2 with ⟨rfl, rfl⟩ | ⟨g, cap, cur, rfl, _⟩
  · exact ⟨_, _, rfl⟩
  · exact ⟨_, _, rfl⟩
theorem own_not {W : World} {b k n : Nat} {e t : TypeId} {v : Value} {xs : List Value} (h : W.ownsRow b e k v n xs) {q : Nat} {cs : Array Value} {fz : Nat × Nat} (ho : W.heap[q]? = some (.cells cs t fz)) (hne : e ≠ t) : v.ownBlock ≠ some q := by
  intro hq
  rcases h.2 with ⟨h1, _⟩ | ⟨g, cap, cur, h1, _, hh, _⟩
  · rw [h1] at hq; simp [Value.ownBlock] at hq
  · rw [h1] at hq
    obtain rfl : g = q := by simpa [Value.ownBlock] using hq
    rw [ho] at hh; cases hh; exact hne rfl
/-- The call of a Go function by its contract, as one step of a region that draws its order. -/
theorem step_call {P : Program} {ops : Array Oper} {o : Oper} {a : Act} {w : World} {K : Act → World → Prop} {Q : Exit → Act → World → Prop} {E : Prop} (hgd : o.guard = none) (f : Nat) (x : Operand) (t : TypeId)
    (ho : o.op = .call { callee := .value (.func f), args := #[x], argTypes := #[t] }) (v : Value) (hx : a.eval x = v) (u : Value) (R : World → Prop) (hcf : ∀ w, (callFunc f #[v]).run P w = .ok (.enter f #[v]) w)
    (hc : Calls P f #[v] w fun e w' => e = .returned u ∧ R w') (h : ∀ w', R w' → K (a.put o.dst u) w') : if Region.wanted o (yielded ops a.tmps) = true then Oper.wp P o a w K Q else E := by
  have hw : Region.wanted o (yielded ops a.tmps) = true := by simp [Region.wanted, hgd]
  rw [if_pos hw]
  unfold Oper.wp
  have hf : a.eval (.func f) = .func (.func f) #[] #[] := rfl
  simp [execOp, ho, resolve, invoke, hf, hx, hcf, Deferred.ofValue, Oper.upon]
  refine hc.mono ?_
  rintro e w' ⟨rfl, hr⟩
  exact h w' hr
/-- The same, where the callee panics. -/
theorem step_panic {P : Program} {ops : Array Oper} {o : Oper} {a : Act} {w : World} {K : Act → World → Prop} {Q : Exit → Act → World → Prop} {E : Prop} (hgd : o.guard = none) (f : Nat) (x : Operand) (t : TypeId)
    (ho : o.op = .call { callee := .value (.func f), args := #[x], argTypes := #[t] }) (v : Value) (hx : a.eval x = v) (ch : List PanicEntry) (R : World → Prop) (hcf : ∀ w, (callFunc f #[v]).run P w = .ok (.enter f #[v]) w)
    (hc : Calls P f #[v] w fun e w' => e = .panicked ch ∧ R w') (h : ∀ w', R w' → Q (.panic ch) a w') : if Region.wanted o (yielded ops a.tmps) = true then Oper.wp P o a w K Q else E := by
  have hw : Region.wanted o (yielded ops a.tmps) = true := by simp [Region.wanted, hgd]
  rw [if_pos hw]
  unfold Oper.wp
  have hf : a.eval (.func f) = .func (.func f) #[] #[] := rfl
  simp [execOp, ho, resolve, invoke, hf, hx, hcf, Deferred.ofValue, Oper.upon]
  refine hc.mono ?_
  rintro e w' ⟨rfl, hr⟩
  exact h w' hr
theorem grown_keep' {w w' : World} {k : Nat} {o : Obj} {r : Option Nat} (h : w.heap[k]? = some o) (hg : w.grownBy w' r) (hne : r ≠ some k) : w'.heap[k]? = some o :=
  (hg.block k (Array.getElem?_eq_some_iff.1 h).1 (fun e => hne e.symm)).trans h
end Go.Proofs.YtbcfiiilikkkeaaGreatDoor
