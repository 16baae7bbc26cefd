/- Machines as plain data: states, the way in which they are made. No program is named here. -/
import Derived.Test.YtfhmamalanloaaaDoorNums
namespace Go.Proofs.YtfhmamalanloaaaDoor.Fm

structure Arc where
  label : Int
  out : Int
  to : Nat
deriving DecidableEq
structure St where
  final : Bool
  out : Int
  arcs : List Arc
deriving DecidableEq
/-- A word as runes, with its weight. -/
abbrev En := List Int × Int

def leastF (m : Int) : List En → Int
  | [] => m
  | e :: r => leastF (if e.2 < m then e.2 else m) r
def least : List En → Int
  | [] => 0
  | e :: r => leastF e.2 (e :: r)
def hd (e : En) : Int := e.1.headD 0
def tl (e : En) : En := (e.1.tail, e.2)
/-- How many, from the first on, begin with c. -/
def lead (c : Int) : List En → Nat
  | [] => 0
  | e :: r => if hd e = c then lead c r + 1 else 0
/-- By first runes. -/
def grp : List En → List (Int × List En)
  | [] => []
  | e :: r => match grp r with
    | [] => [(hd e, [tl e])]
    | (c, G) :: gs => if hd e = c then (c, tl e :: G) :: gs else (hd e, [tl e]) :: (c, G) :: gs
def finOf : List En → Bool
  | ([], _) :: _ => true
  | _ => false
def restOf : List En → List En
  | ([], _) :: r => r
  | S => S
def outOf (S : List En) : Int := match S with
  | ([], n) :: _ => n - least S
  | _ => 0
def numSt (b : List St) (s : St) : List St × Nat := if s ∈ b then (b, b.idxOf s) else (b ++ [s], b.length)
def arF (st : List St → List En → List St × Nat) (base : Int) : List St → List (Int × List En) → List St × List Arc
  | b, [] => (b, [])
  | b, (c, G) :: r => ((arF st base (st b G).1 r).1, ⟨c, least G - base, (st b G).2⟩ :: (arF st base (st b G).1 r).2)
def stF : Nat → List St → List En → List St × Nat
  | 0, b, _ => (b, 0)
  | f + 1, b, S => numSt (arF (stF f) (least S) b (grp (restOf S))).1 ⟨finOf S, outOf S, (arF (stF f) (least S) b (grp (restOf S))).2⟩
/-- What is left behind the first k runes. -/
def cut (k : Nat) (l : List En) : List En := l.map fun e => (e.1.drop k, e.2)
/-- How much there is. -/
def bulk (l : List En) : Nat := (l.map fun e => e.1.length + 1).sum

theorem cut_zero (l : List En) : cut 0 l = l := by simp [cut]
theorem cut_cons (k : Nat) (e : En) (l : List En) : cut k (e :: l) = (e.1.drop k, e.2) :: cut k l := rfl
theorem cut_len (k : Nat) (l : List En) : (cut k l).length = l.length := by simp [cut]
theorem cut_take (k n : Nat) (l : List En) : cut k (l.take n) = (cut k l).take n := by simp [cut, List.map_take]
theorem cut_drop (k n : Nat) (l : List En) : cut k (l.drop n) = (cut k l).drop n := by simp [cut, List.map_drop]
theorem cut_tl (k : Nat) (l : List En) : cut (k + 1) l = (cut k l).map tl := by
  simp only [cut, List.map_map]
  refine List.map_congr_left fun e _ => ?_
  simp [tl, List.tail_drop]
theorem leastF_cut (k : Nat) : ∀ (l : List En) (m : Int), leastF m (cut k l) = leastF m l
  | [], _ => rfl
  | e :: r, m => by rw [cut_cons, leastF, leastF, leastF_cut k r]
theorem least_cut (k : Nat) (l : List En) : least (cut k l) = least l := by
  cases l with
  | nil => rfl
  | cons e r => rw [cut_cons, least, least, ← cut_cons, leastF_cut]
theorem lead_le (c : Int) : ∀ l : List En, lead c l ≤ l.length
  | [] => Nat.le_refl _
  | e :: r => by
    rw [lead]
    split
    · simp [lead_le c r]
    · simp
theorem grp_cons (e : En) (r : List En) : grp (e :: r) = (hd e, ((e :: r).take (lead (hd e) r + 1)).map tl) :: grp ((e :: r).drop (lead (hd e) r + 1)) := by
  induction r generalizing e with
  | nil => rfl
  | cons e' r ih =>
    rw [grp, ih e']
    simp only
    by_cases h : hd e = hd e'
    · rw [if_pos h, lead, if_pos h.symm]
      simp [h]
    · rw [if_neg h, lead, if_neg (fun e => h e.symm)]
      show _ = (hd e, [tl e]) :: grp (e' :: r)
      rw [ih e']
theorem leastF_le : ∀ (l : List En) (m : Int), leastF m l ≤ m
  | [], _ => Int.le_refl _
  | e :: r, m => by
    rw [leastF]
    have := leastF_le r (if e.2 < m then e.2 else m)
    by_cases h : e.2 < m
    · rw [if_pos h] at this ⊢; omega
    · rw [if_neg h] at this ⊢; omega
theorem leastF_mem : ∀ (l : List En) (m : Int), leastF m l = m ∨ ∃ e ∈ l, e.2 = leastF m l
  | [], _ => .inl rfl
  | e :: r, m => by
    rw [leastF]
    rcases leastF_mem r (if e.2 < m then e.2 else m) with h | ⟨x, hx, h⟩
    · split at h
      · rename_i hlt
        rw [if_pos hlt]
        exact .inr ⟨e, by simp, h.symm⟩
      · rename_i hlt
        rw [if_neg hlt]
        exact .inl h
    · exact .inr ⟨x, by simp [hx], h⟩
theorem leastF_all : ∀ (l : List En) (m : Int), ∀ e ∈ l, leastF m l ≤ e.2
  | x :: r, m, e, h => by
    rw [leastF]
    rcases List.mem_cons.1 h with rfl | h
    · have := leastF_le r (if e.2 < m then e.2 else m)
      by_cases h : e.2 < m
      · rw [if_pos h] at this ⊢; omega
      · rw [if_neg h] at this ⊢; omega
    · exact leastF_all r _ e h
theorem least_all {l : List En} {e : En} (h : e ∈ l) : least l ≤ e.2 := by
  cases l with
  | nil => cases h
  | cons x r => exact leastF_all _ _ e h
theorem least_mem {l : List En} (h : l ≠ []) : ∃ e ∈ l, e.2 = least l := by
  cases l with
  | nil => exact absurd rfl h
  | cons x r =>
    rcases leastF_mem (x :: r) x.2 with h | h
    · exact ⟨x, by simp, h.symm⟩
    · exact h
end Go.Proofs.YtfhmamalanloaaaDoor.Fm
