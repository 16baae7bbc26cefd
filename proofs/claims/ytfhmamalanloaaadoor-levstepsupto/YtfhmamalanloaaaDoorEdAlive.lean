/- Cut: what the seat's translation lacks is left out. -/
/- edit.Within, the law's own near and alive. -/
import Derived.Test.YtfhmamalanloaaaDoorEdDist3
namespace Go.Proofs.YtfhmamalanloaaaDoor
open Go.RowKit Nums Ed
set_option maxRecDepth 100000

def dN (o : Option Nat) : Int := match o with | some n => (n : Int) | none => 0
def dF (o : Option Nat) : Bool := match o with | some _ => true | none => false
theorem dsV_eq (o : Option Nat) : dsV o = .tuple #[.int .i64 (dN o), .bool (dF o)] := by cases o <;> rfl
def wiB (o : Option Nat) (m : Int) : Bool := match o with | some n => decide ((n : Int) ≤ m) | none => false
/-- lv with fuel: it can be reckoned. -/
def lvF : Nat → List Int → List Int → Nat
  | 0, xs, ys => xs.length + ys.length
  | _ + 1, [], ys => ys.length
  | _ + 1, _ :: xs, [] => xs.length + 1
  | f + 1, x :: xs, y :: ys => min (lvF f xs ys + if x = y then 0 else 1) (min (lvF f xs (y :: ys) + 1) (lvF f (x :: xs) ys + 1))
theorem lvF_eq : ∀ (f : Nat) (xs ys : List Int), xs.length + ys.length ≤ f → lvF f xs ys = lv xs ys
  | 0, xs, ys, h => by
    have e1 : xs = [] := List.length_eq_zero_iff.1 (by omega)
    subst e1
    rw [lv_left]; simp [lvF]
  | _ + 1, [], ys, _ => by rw [lv_left]; rfl
  | _ + 1, _ :: xs, [], _ => by rw [lv_right]; rfl
  | f + 1, x :: xs, y :: ys, h => by
    simp only [List.length_cons] at h
    rw [lv_cons, lvF, lvF_eq f xs ys (by omega), lvF_eq f xs (y :: ys) (by simp only [List.length_cons]; omega), lvF_eq f (x :: xs) ys (by simp only [List.length_cons]; omega)]
theorem ds_kitten : dsE [107, 105, 116, 116, 101, 110] [115, 105, 116, 116, 105, 110, 103] = some 3 := by
  have h1 : rs [107, 105, 116, 116, 101, 110] = some [107, 105, 116, 116, 101, 110] := by decide +kernel
  have h2 : rs [115, 105, 116, 116, 105, 110, 103] = some [115, 105, 116, 116, 105, 110, 103] := by decide +kernel
  rw [dsE_some (rsE_some h1 (by decide)) (rsE_some h2 (by decide)), ← lvF_eq 13 _ _ (by decide)]
  decide +kernel
theorem ds_ab : dsE [97, 98] [98, 97] = some 2 := by
  have h1 : rs [97, 98] = some [97, 98] := by decide +kernel
  have h2 : rs [98, 97] = some [98, 97] := by decide +kernel
  rw [dsE_some (rsE_some h1 (by decide)) (rsE_some h2 (by decide)), ← lvF_eq 4 _ _ (by decide)]
  decide +kernel
/-- What a law keeps from call to call. -/
structure Acc (w0 w : World) : Prop where
  bel : Below w0.heap.size w0 w
  tabs : Tabs w
theorem Acc.refl {w : World} (ht : Tabs w) : Acc w w := ⟨Below.refl _ _, ht⟩
theorem Acc.step {w0 w w' : World} (h : Acc w0 w) (hb : Below w.heap.size w w') : Acc w0 w' := ⟨h.bel.trans (hb.mono h.bel.size), h.tabs.below hb⟩
theorem wi_ab2 : wiB (dsE [97, 98] [98, 97]) 2 = true := by rw [ds_ab]; rfl
theorem wi_ab1 : wiB (dsE [97, 98] [98, 97]) 1 = false := by rw [ds_ab]; rfl
end Go.Proofs.YtfhmamalanloaaaDoor
