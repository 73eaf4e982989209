/- Plain facts on check sums of 32 bits: a text with one byte turned has another sum; no program is named here. -/
namespace Go.Proofs.YtimacmijinblmaaGreat.Sums
def poly : Nat := 3558460437
def half (s : Nat) : Nat := if s % 2 = 1 then (s / 2) ^^^ poly else s / 2
def byte8 (s : Nat) : Nat := half (half (half (half (half (half (half (half s)))))))
def more : Nat → List UInt8 → Nat
  | s, [] => s
  | s, b :: r => more (byte8 (s ^^^ b.toNat)) r
def sumOf (l : List UInt8) : Nat := more 4294967295 l

/-- A sum in four bytes, the highest first. -/
def four (x : Nat) : List UInt8 := [UInt8.ofNat (x / 16777216), UInt8.ofNat (x / 65536), UInt8.ofNat (x / 256), UInt8.ofNat x]
/-- Halved k times. -/
def hn : Nat → Nat → Nat
  | 0, s => s
  | k + 1, s => hn k (half s)
end Go.Proofs.YtimacmijinblmaaGreat.Sums
