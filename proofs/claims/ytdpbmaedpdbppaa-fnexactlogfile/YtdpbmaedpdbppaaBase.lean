/- What the walks share (all of it lies in Var). -/
import Derived.Test.YtdpbmaedpdbppaaVar
