/- A peer as four numbers. No program. Plain facts on batches: which are right, their texts, what is read of a text; no program is named here. -/
import Derived.Test.YtiifjhalkihlbaaVar
namespace Go.Proofs.Ytiifjhalkihlbaa
structure PeerL where
  id : Int
  next : Int
  mat : Int
  sent : Int
end Go.Proofs.Ytiifjhalkihlbaa
namespace Go.Proofs.Ytiifjhalkihlbaa
namespace Batches
open Go
abbrev by_ (s : ByteArray) : List UInt8 := s.data.toList
theorem by_inj {a b : ByteArray} (h : by_ a = by_ b) : a = b := by
  cases a; cases b
  simp only [ByteArray.mk.injEq]
  exact Array.ext' h
end Batches
end Go.Proofs.Ytiifjhalkihlbaa
