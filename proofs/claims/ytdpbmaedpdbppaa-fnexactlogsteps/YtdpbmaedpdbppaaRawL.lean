/- A raw write; no program is named here. -/
import Derived.Test.YtdpbmaedpdbppaaMathB
namespace Go.Proofs.Ytdpbmaedpdbppaa
structure RawL where
  kind : Int
  name : ByteArray
  to : ByteArray
  text : ByteArray
end Go.Proofs.Ytdpbmaedpdbppaa
