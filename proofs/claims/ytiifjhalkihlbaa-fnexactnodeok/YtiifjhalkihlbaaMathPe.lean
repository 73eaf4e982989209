/- A peer as four numbers. No program. -/
import Derived.Test.YtiifjhalkihlbaaMathA
namespace Go.Proofs.Ytiifjhalkihlbaa
structure PeerL where
  id : Int
  next : Int
  mat : Int
  sent : Int
end Go.Proofs.Ytiifjhalkihlbaa
