/- EditFar and EditWithin: the walks. -/
import Derived.Test.YtjfbildaaobfpaaDoorEdRef
namespace Go.Proofs.YtjfbildaaobfpaaDoor
open Go.RowKit Nums Ed
set_option maxRecDepth 100000

theorem far_walk (a b : ByteArray) (w : World) (ht : Tabs w) (ha : a.size ≤ 9223372036854775807) (hb : b.size ≤ 9223372036854775807) :
    Calls Tryd.prog 3 #[.string a, .string b] w fun e w' => e = .returned (.bool true) ∧ Below w.heap.size w w' := by
  have h0 := Acc.refl ht
  by_cases hn : a.size ≤ 1200 ∧ b.size ≤ 1200
  · have HN : Hid (decide (a.size ≤ 1200 ∧ b.size ≤ 1200) = true) := decide_eq_true hn
    obtain ⟨ha2, hb2⟩ := hn
    go_enter Tryd.func3, Tryd.ntmps3
    go_upto_region 3 with (go_at_call 11; refine (near_any a b _ ha hb).mono ?_; rintro e w' ⟨rfl, rfl⟩; rw [HN.out])
    go_wp2_with (first
      | (go_at_call 12; refine (alive_acc (by assumption)).mono ?_; rintro e w1 ⟨rfl, h1⟩)
      | (go_at_call 13; refine (Distance_acc (by assumption) a b ha hb).mono ?_; rintro e w2 ⟨rfl, h2⟩)
      | (go_at_call 14; refine (refDistance_acc (by assumption) a b ha2 hb2).mono ?_; rintro e w3 ⟨rfl, h3⟩))
    go_ret
    exact ⟨by simp, h1.bel⟩
  · have HN : Hid (decide (a.size ≤ 1200 ∧ b.size ≤ 1200) = false) := decide_eq_false hn
    clear hn
    go_enter Tryd.func3, Tryd.ntmps3
    go_upto_region 2 with (go_at_call 11; refine (near_any a b _ ha hb).mono ?_; rintro e w' ⟨rfl, rfl⟩; rw [HN.out])
    go_wp2_with (go_at_call 12; refine (alive_acc (by assumption)).mono ?_; rintro e w1 ⟨rfl, h1⟩)
    go_ret
    exact ⟨rfl, h1.bel⟩

theorem within_walk (a b : ByteArray) (m : Int) (w : World) (ht : Tabs w) (ha : a.size ≤ 9223372036854775807) (hb : b.size ≤ 9223372036854775807) :
    Calls Tryd.prog 4 #[.string a, .string b, .int .i64 m] w fun e w' => e = .returned (.bool true) ∧ Below w.heap.size w w' := by
  have h0 := Acc.refl ht
  by_cases hn : a.size ≤ 1200 ∧ b.size ≤ 1200
  · have HN : Hid (decide (a.size ≤ 1200 ∧ b.size ≤ 1200) = true) := decide_eq_true hn
    obtain ⟨ha2, hb2⟩ := hn
    go_enter Tryd.func4, Tryd.ntmps4
    go_upto_region 3 with (go_at_call 11; refine (near_any a b _ ha hb).mono ?_; rintro e w' ⟨rfl, rfl⟩; rw [HN.out])
    go_upto_region 4 with (go_at_call 14; refine (refDistance_acc (by assumption) a b ha2 hb2).mono ?_; rintro e w3 ⟨rfl, h3⟩)
    have HW := fun {w0 w : World} (h : Acc w0 w) => Within_acc h a b m ha hb
    generalize dsE a.data.toList b.data.toList = o at *
    cases o
    all_goals
      simp only [dN, dF]
      go_wp2_with (first
        | (go_at_call 12; refine (alive_acc (by assumption)).mono ?_; rintro e w1 ⟨rfl, h1⟩)
        | (go_at_call 15; refine (HW (by assumption)).mono ?_; rintro e w2 ⟨rfl, h2⟩))
      go_ret
      exact ⟨by simp [wiB], h2.bel⟩
  · have HN : Hid (decide (a.size ≤ 1200 ∧ b.size ≤ 1200) = false) := decide_eq_false hn
    clear hn
    go_enter Tryd.func4, Tryd.ntmps4
    go_upto_region 2 with (go_at_call 11; refine (near_any a b _ ha hb).mono ?_; rintro e w' ⟨rfl, rfl⟩; rw [HN.out])
    go_wp2_with (go_at_call 12; refine (alive_acc (by assumption)).mono ?_; rintro e w1 ⟨rfl, h1⟩)
    go_ret
    exact ⟨rfl, h1.bel⟩
end Go.Proofs.YtjfbildaaobfpaaDoor
