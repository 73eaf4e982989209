/- Commands, replies and what is asked once, in plain mathematics: no program is named. -/
import Derived.Test.YtddmogggdckneaaMathB
namespace Go.Proofs.Ytddmogggdckneaa
structure CmL where
  op : Int
  session : Int
  seq : Int
  key : ByteArray
  old : ByteArray
  value : ByteArray
/-- A reply: its call, its index, its command's six fields, its text. -/
structure RpL where
  call : Int
  idx : Int
  op : Int
  session : Int
  seq : Int
  key : ByteArray
  old : ByteArray
  value : ByteArray
  text : ByteArray
/-- One who watches: what is asked once (a session and a seq) and the text. -/
structure WbL where
  session : Int
  seq : Int
  text : ByteArray
def wbOf (r : RpL) : WbL := ⟨r.session, r.seq, r.text⟩
end Go.Proofs.Ytddmogggdckneaa
