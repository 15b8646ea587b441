/-
  Plain: configurations, which may be, all of them, what they are called.
-/
namespace Go.Proofs.YtadfnllfeoidhaaDoor
set_option linter.unusedVariables false

namespace Co
/-- Shape, Inner, Log, Kind, Sample. -/
abbrev Cf := Nat × Nat × Nat × Nat × Nat
def sam : List Nat := [1, 2, 4, 8, 16, 32, 64]
def lgs : List Nat := [4, 6, 8, 10, 12]
def inB (l : List Nat) (n : Nat) : Bool := l.any fun x => Nat.beq x n
/-- Which may be. -/
def ok (c : Cf) : Bool := Nat.ble 1 c.1 && (Nat.ble c.1 4 && (Nat.ble 1 c.2.2.2.1 && (Nat.ble c.2.2.2.1 3 && (inB sam c.2.2.2.2 && bif Nat.beq c.1 4 then Nat.ble 1 c.2.1 && (Nat.ble c.2.1 3 && inB lgs c.2.2.1) else Nat.beq c.2.1 0 && Nat.beq c.2.2.1 0))))
/-- The place t of all that there could be. -/
def cat (t : Nat) : Cf := (t / 9984 + 1, t / 2496 % 4, t / 192 % 13, t / 64 % 3 + 1, t % 64 + 1)
/-- Those that may be from place t on, of the next n. -/
def fr : Nat → Nat → List Cf
  | t, 0 => []
  | t, n + 1 => bif ok (cat t) then cat t :: fr (t + 1) n else fr (t + 1) n
/-- All, in their order. -/
def all : List Cf := ([(1, 0, 0), (2, 0, 0), (3, 0, 0)] ++ [1, 2, 3].flatMap fun i => lgs.map fun l => (4, i, l)).flatMap fun (s, i, l) => [1, 2, 3].flatMap fun k => sam.map fun m => (s, i, l, k, m)
theorem all_len : all.length = 378 := by decide +kernel
theorem fr_all : fr 0 39936 = all := by decide +kernel
end Co
end Go.Proofs.YtadfnllfeoidhaaDoor
