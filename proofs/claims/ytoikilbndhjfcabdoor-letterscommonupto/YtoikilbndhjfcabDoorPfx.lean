/- With how many numbers two rows begin alike. No program is named here. -/
import Derived.Test.YtoikilbndhjfcabDoorTexts
namespace Go.Proofs.YtoikilbndhjfcabDoor.Nums

def pfx : List Int → List Int → Nat
  | x :: xs, y :: ys => if x = y then pfx xs ys + 1 else 0
  | [], _ => 0
  | _ :: _, [] => 0
theorem pfx_nil (ys : List Int) : pfx [] ys = 0 := by cases ys <;> rfl
theorem pfx_comm : ∀ xs ys : List Int, pfx xs ys = pfx ys xs
  | [], [] => rfl
  | [], _ :: _ => rfl
  | _ :: _, [] => rfl
  | x :: xs, y :: ys => by
    simp only [pfx]
    by_cases h : x = y
    · rw [if_pos h, if_pos h.symm, pfx_comm xs ys]
    · rw [if_neg h, if_neg (fun e => h e.symm)]
theorem pfx_at : ∀ (k : Nat) (xs ys : List Int), k ≤ xs.length → k ≤ ys.length → (∀ i, i < k → xs.getD i 0 = ys.getD i 0) → (k = xs.length ∨ k = ys.length ∨ xs.getD k 0 ≠ ys.getD k 0) → pfx xs ys = k
  | 0, xs, ys, _, _, _, h => by
    match xs, ys with
    | [], _ => exact pfx_nil _
    | _ :: _, [] => rfl
    | x :: xs, y :: ys =>
      simp at h
      simp only [pfx]; rw [if_neg h]
  | k + 1, xs, ys, h1, h2, ha, h => by
    match xs, ys with
    | [], _ => simp at h1
    | _ :: _, [] => simp at h2
    | x :: xs, y :: ys =>
      have e : x = y := ha 0 (by omega)
      simp only [pfx]; rw [if_pos e]
      simp at h1 h2 h
      rw [pfx_at k xs ys h1 h2 (fun i hi => by have := ha (i + 1) (by omega); simpa using this) (by simpa using h)]
/-- What Common tells of two texts. -/
def commonOf (a b : List UInt8) : Nat :=
  match rs a, rs b with
  | some xs, some ys => pfx xs ys
  | none, _ => 0
  | some _, none => 0
theorem common_comm (a b : List UInt8) : commonOf a b = commonOf b a := by
  unfold commonOf
  cases rs a <;> cases rs b <;> simp [pfx_comm]
theorem common_none {a b : List UInt8} (h : rs a = none ∨ rs b = none) : commonOf a b = 0 := by
  unfold commonOf
  rcases h with h | h
  · rw [h]
  · rw [h]; cases rs a <;> rfl
theorem common_some {a b : List UInt8} {xs ys : List Int} (h : rs a = some xs) (h2 : rs b = some ys) : commonOf a b = pfx xs ys := by
  unfold commonOf; rw [h, h2]
end Go.Proofs.YtoikilbndhjfcabDoor.Nums
