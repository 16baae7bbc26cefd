/- edit.Within, the law's own near and alive. -/
import Derived.Test.YtjfbildaaobfpaaDoorEdDist3
namespace Go.Proofs.YtjfbildaaobfpaaDoor
open Go.RowKit Nums Ed
set_option maxRecDepth 100000

def dN (o : Option Nat) : Int := match o with | some n => (n : Int) | none => 0
def dF (o : Option Nat) : Bool := match o with | some _ => true | none => false
theorem dsV_eq (o : Option Nat) : dsV o = .tuple #[.int .i64 (dN o), .bool (dF o)] := by cases o <;> rfl
def wiB (o : Option Nat) (m : Int) : Bool := match o with | some n => decide ((n : Int) ≤ m) | none => false
/-- Distance, as one tuple of two. -/
theorem Distance_is (a b : ByteArray) (w : World) (ht : Tabs w) (ha : a.size ≤ 9223372036854775807) (hb : b.size ≤ 9223372036854775807) :
    Calls Tryd.prog 13 #[.string a, .string b] w fun e w' => e = .returned (.tuple #[.int .i64 (dN (dsE a.data.toList b.data.toList)), .bool (dF (dsE a.data.toList b.data.toList))]) ∧ Below w.heap.size w w' := by
  refine (Distance_any a b w ht ha hb).mono ?_
  rintro e w' ⟨rfl, h⟩
  exact ⟨by rw [dsV_eq], h⟩

theorem Within_any (a b : ByteArray) (m : Int) (w : World) (ht : Tabs w) (ha : a.size ≤ 9223372036854775807) (hb : b.size ≤ 9223372036854775807) :
    Calls Tryd.prog 15 #[.string a, .string b, .int .i64 m] w fun e w' => e = .returned (.bool (wiB (dsE a.data.toList b.data.toList) m)) ∧ Below w.heap.size w w' := by
  have HD := Distance_is a b w ht ha hb
  generalize dsE a.data.toList b.data.toList = o at *
  go_enter Tryd.func15, Tryd.ntmps15
  go_upto_region 2 with (go_at_call 13; refine HD.mono ?_; rintro e w1 ⟨rfl, hb1⟩)
  clear HD
  cases o with
  | none =>
    simp only [dN, dF]
    go_wp2
    go_ret
    exact ⟨rfl, hb1⟩
  | some n =>
    simp only [dN, dF]
    go_wp2
    go_ret
    exact ⟨rfl, hb1⟩

theorem near_any (a b : ByteArray) (w : World) (ha : a.size ≤ 9223372036854775807) (hb : b.size ≤ 9223372036854775807) :
    Calls Tryd.prog 11 #[.string a, .string b] w fun e w' => e = .returned (.bool (decide (a.size ≤ 1200 ∧ b.size ≤ 1200))) ∧ w' = w := by
  by_cases h1 : a.size ≤ 1200
  · by_cases h2 : b.size ≤ 1200
    all_goals
      go_enter Tryd.func11, Tryd.ntmps11
      go_wp2
      go_ret
      refine ⟨ret_bool ?_, rfl⟩
      simp [h1, h2]
      try omega
  · go_enter Tryd.func11, Tryd.ntmps11
    go_wp2
    go_ret
    refine ⟨ret_bool ?_, rfl⟩
    simp

/-- lv with fuel: it can be reckoned. -/
def lvF : Nat → List Int → List Int → Nat
  | 0, xs, ys => xs.length + ys.length
  | _ + 1, [], ys => ys.length
  | _ + 1, _ :: xs, [] => xs.length + 1
  | f + 1, x :: xs, y :: ys => min (lvF f xs ys + if x = y then 0 else 1) (min (lvF f xs (y :: ys) + 1) (lvF f (x :: xs) ys + 1))
theorem lvF_eq : ∀ (f : Nat) (xs ys : List Int), xs.length + ys.length ≤ f → lvF f xs ys = lv xs ys
  | 0, xs, ys, h => by
    have e1 : xs = [] := List.length_eq_zero_iff.1 (by omega)
    subst e1
    rw [lv_left]; simp [lvF]
  | _ + 1, [], ys, _ => by rw [lv_left]; rfl
  | _ + 1, _ :: xs, [], _ => by rw [lv_right]; rfl
  | f + 1, x :: xs, y :: ys, h => by
    simp only [List.length_cons] at h
    rw [lv_cons, lvF, lvF_eq f xs ys (by omega), lvF_eq f xs (y :: ys) (by simp only [List.length_cons]; omega), lvF_eq f (x :: xs) ys (by simp only [List.length_cons]; omega)]
theorem ds_kitten : dsE [107, 105, 116, 116, 101, 110] [115, 105, 116, 116, 105, 110, 103] = some 3 := by
  have h1 : rs [107, 105, 116, 116, 101, 110] = some [107, 105, 116, 116, 101, 110] := by decide +kernel
  have h2 : rs [115, 105, 116, 116, 105, 110, 103] = some [115, 105, 116, 116, 105, 110, 103] := by decide +kernel
  rw [dsE_some (rsE_some h1 (by decide)) (rsE_some h2 (by decide)), ← lvF_eq 13 _ _ (by decide)]
  decide +kernel
theorem ds_ab : dsE [97, 98] [98, 97] = some 2 := by
  have h1 : rs [97, 98] = some [97, 98] := by decide +kernel
  have h2 : rs [98, 97] = some [98, 97] := by decide +kernel
  rw [dsE_some (rsE_some h1 (by decide)) (rsE_some h2 (by decide)), ← lvF_eq 4 _ _ (by decide)]
  decide +kernel
/-- What a law keeps from call to call. -/
structure Acc (w0 w : World) : Prop where
  bel : Below w0.heap.size w0 w
  tabs : Tabs w
theorem Acc.refl {w : World} (ht : Tabs w) : Acc w w := ⟨Below.refl _ _, ht⟩
theorem Acc.step {w0 w w' : World} (h : Acc w0 w) (hb : Below w.heap.size w w') : Acc w0 w' := ⟨h.bel.trans (hb.mono h.bel.size), h.tabs.below hb⟩
theorem Within_acc {w0 w : World} (h : Acc w0 w) (a b : ByteArray) (m : Int) (ha : a.size ≤ 9223372036854775807) (hb : b.size ≤ 9223372036854775807) :
    Calls Tryd.prog 15 #[.string a, .string b, .int .i64 m] w fun e w' => e = .returned (.bool (wiB (dsE a.data.toList b.data.toList) m)) ∧ Acc w0 w' := by
  refine (Within_any a b m w h.tabs ha hb).mono ?_
  rintro e w' ⟨rfl, h2⟩
  exact ⟨rfl, h.step h2⟩
theorem Distance_acc {w0 w : World} (h : Acc w0 w) (a b : ByteArray) (ha : a.size ≤ 9223372036854775807) (hb : b.size ≤ 9223372036854775807) :
    Calls Tryd.prog 13 #[.string a, .string b] w fun e w' => e = .returned (.tuple #[.int .i64 (dN (dsE a.data.toList b.data.toList)), .bool (dF (dsE a.data.toList b.data.toList))]) ∧ Acc w0 w' := by
  refine (Distance_is a b w h.tabs ha hb).mono ?_
  rintro e w' ⟨rfl, h2⟩
  exact ⟨rfl, h.step h2⟩
theorem wi_ab2 : wiB (dsE [97, 98] [98, 97]) 2 = true := by rw [ds_ab]; rfl
theorem wi_ab1 : wiB (dsE [97, 98] [98, 97]) 1 = false := by rw [ds_ab]; rfl
theorem alive_acc {w0 w : World} (h : Acc w0 w) :
    Calls Tryd.prog 12 #[] w fun e w' => e = .returned (.bool true) ∧ Acc w0 w' := by
  go_enter Tryd.func12, Tryd.ntmps12
  go_upto_region 2 with (go_at_call 13; refine (Distance_acc h _ _ (by decide) (by decide)).mono ?_; rintro e w1 ⟨rfl, h1⟩; simp only [ds_kitten, dN, dF])
  go_wp2_with (go_at_call 15; refine (Within_acc (by assumption) _ _ _ (by decide) (by decide)).mono ?_; rintro e w2 ⟨rfl, h2⟩; simp only [wi_ab2, wi_ab1])
  go_ret
  exact ⟨rfl, h2⟩
end Go.Proofs.YtjfbildaaobfpaaDoor
