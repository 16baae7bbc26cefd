/- Machines that are read: plain data, and when they are right. No program is named here. -/
import Derived.Test.YtllmdfkiogmofaaGreatDoorFFolM
namespace Go.Proofs.YtllmdfkiogmofaaGreatDoor.Pk
open Go.Proofs.YtllmdfkiogmofaaGreatDoor.Nums

structure RArc where
  label : Int
  out : Int
  to : Int
deriving DecidableEq
structure RSt where
  final : Bool
  out : Int
  arcs : List RArc
deriving DecidableEq
/-- The least that a state or its arcs say. -/
def minF (m : Int) : List RArc → Int
  | [] => m
  | a :: r => minF (min m a.out) r
def leastS (s : RSt) : Int := minF (if s.final then s.out else 9223372036854775807) s.arcs
def wordR (r : Int) : Bool := isR r && vis r
/-- Arcs rise, and lead to lower numbers. -/
def ordB (n : Int) : Option Int → List RArc → Bool
  | _, [] => true
  | p, a :: r => !(p.any fun q => decide (a.label ≤ q)) && wordR a.label && decide (0 ≤ a.to ∧ a.to < n) && ordB n (some a.label) r
def formS (s : RSt) (i : Nat) : Bool := (s.final || decide (s.out = 0)) && decide (leastS s = 0) && ordB i none s.arcs
def formB : Nat → List RSt → Bool
  | _, [] => true
  | i, s :: r => formS s i && formB (i + 1) r
/-- What all ways on from a state come to. -/
structure Reach where
  arcs : Int
  words : Int
  weight : Int
deriving DecidableEq
def stepR (known : List Reach) (r : Reach) (a : RArc) : Reach :=
  ⟨max r.arcs ((known.getD a.to.toNat ⟨0, 0, 0⟩).arcs + 1), r.words + (known.getD a.to.toNat ⟨0, 0, 0⟩).words, max r.weight (min a.out 1048576 + (known.getD a.to.toNat ⟨0, 0, 0⟩).weight)⟩
def behR (s : RSt) (known : List Reach) : Reach := s.arcs.foldl (stepR known) (if s.final then ⟨0, 1, s.out⟩ else ⟨0, 0, 0⟩)
def okR (base : Int) (r : Reach) : Bool := decide (r.arcs ≤ 24 ∧ r.words ≤ 4096 ∧ r.weight ≤ 1048576 - base)
def bndB (base : Int) : List Reach → List RSt → Bool
  | _, [] => true
  | known, s :: r => okR base (behR s known) && bndB base (known ++ [behR s known]) r
/-- States get their numbers as one goes from one of them on; none: something is amiss. -/
def vArcs (visit : Nat → Nat → Option Nat) : List RArc → Nat → Option Nat
  | [], next => some next
  | a :: r, next => if (next : Int) ≤ a.to then (visit a.to.toNat next).bind (vArcs visit r) else vArcs visit r next
def vis8 (m : List RSt) : Nat → Nat → Nat → Option Nat
  | 0, _, _ => none
  | f + 1, n, next => (vArcs (vis8 m f) (m.getD n ⟨false, 0, []⟩).arcs next).bind fun k => if n = k then some (k + 1) else none
def numB (m : List RSt) : Bool := (vis8 m (m.length + 25) (m.length - 1) 0).isSome
def rightB (base : Int) (m : List RSt) : Bool :=
  if m = [] then decide (base = 0) else
    decide (1 ≤ base ∧ base ≤ 1048576) && !(m.getD (m.length - 1) ⟨false, 0, []⟩).final && formB 0 m && bndB base [] m && numB m && decide m.Nodup
end Go.Proofs.YtllmdfkiogmofaaGreatDoor.Pk
