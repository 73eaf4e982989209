/- What was applied, in plain mathematics: no program is named. -/
import Derived.Test.YtddmogggdckneaaMathB
namespace Go.Proofs.Ytddmogggdckneaa
/-- What a node applied: its node, its Term, its Index, its Entry's three fields. -/
structure ApL where
  node : Int
  term : Int
  index : Int
  eterm : Int
  ekind : Int
  edata : ByteArray
/-- One who watches: the thing (an Index) and what was seen of it (an Entry's three fields). -/
structure WaL where
  thing : Int
  eterm : Int
  ekind : Int
  edata : ByteArray
def waOf (r : ApL) : WaL := ⟨r.index, r.eterm, r.ekind, r.edata⟩
end Go.Proofs.Ytddmogggdckneaa
