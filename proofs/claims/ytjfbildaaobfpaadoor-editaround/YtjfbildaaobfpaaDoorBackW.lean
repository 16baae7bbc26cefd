/- EditBack and EditAround: the walks. -/
import Derived.Test.YtjfbildaaobfpaaDoorEdAlive
import Derived.Test.YtjfbildaaobfpaaDoorWhole
namespace Go.Proofs.YtjfbildaaobfpaaDoor
open Go.RowKit Nums Ed
set_option maxRecDepth 100000

theorem dsE_comm (a b : List UInt8) : dsE b a = dsE a b := by
  cases h1 : rsE a with
  | none => rw [dsE_left h1, dsE_right h1]
  | some x =>
    cases h2 : rsE b with
    | none => rw [dsE_right h2, dsE_left h2]
    | some y => rw [dsE_some h1 h2, dsE_some h2 h1, lv_comm]
theorem dsE_zero {a b : List UInt8} {n : Nat} (h : dsE a b = some n) : n = 0 ↔ a = b := by
  obtain ⟨x, y, h1, h2, rfl⟩ := dsE_out h
  rw [lv_zero]
  have e1 := (rs_write (rsE_out h1).1).2
  have e2 := (rs_write (rsE_out h2).1).2
  constructor
  · rintro rfl; rw [← e1, ← e2]
  · rintro rfl; rw [h1] at h2; exact Option.some.inj h2
theorem dsE_tri {a b c : List UInt8} {n m : Nat} (h : dsE a b = some n) (k : dsE b c = some m) : ∃ l, dsE a c = some l ∧ l ≤ n + m := by
  obtain ⟨x, y, h1, h2, rfl⟩ := dsE_out h
  obtain ⟨y', z, h3, h4, rfl⟩ := dsE_out k
  rw [h2] at h3
  obtain rfl := Option.some.inj h3
  exact ⟨_, dsE_some h1 h4, lv_tri x y z⟩
theorem eq_data {a b : ByteArray} (h : a.data.toList = b.data.toList) : a = b := by
  cases a; cases b; simp at h; simp [h]

set_option maxHeartbeats 1000000 in
theorem back_walk (a b : ByteArray) (w : World) (ht : Tabs w) (ha : a.size ≤ 9223372036854775807) (hb : b.size ≤ 9223372036854775807) :
    Calls Tryd.prog 5 #[.string a, .string b] w fun e w' => e = .returned (.bool true) ∧ Below w.heap.size w w' := by
  have h0 := Acc.refl ht
  by_cases hn : a.size ≤ 1200 ∧ b.size ≤ 1200
  · have HN : Hid (decide (a.size ≤ 1200 ∧ b.size ≤ 1200) = true) := decide_eq_true hn
    clear hn
    have HD1 := fun {w0 w : World} (h : Acc w0 w) => Distance_acc h a b ha hb
    have HD2 := fun {w0 w : World} (h : Acc w0 w) => Distance_acc h b a hb ha
    rw [dsE_comm] at HD2
    go_enter Tryd.func5, Tryd.ntmps5
    go_upto_region 3 with (go_at_call 11; refine (near_any a b _ ha hb).mono ?_; rintro e w' ⟨rfl, rfl⟩; rw [HN.out])
    go_upto_region 4 with (go_at_call 13; refine (HD1 (by assumption)).mono ?_; rintro e w2 ⟨rfl, h2⟩)
    go_upto_region 5 with (go_at_call 13; refine (HD2 (by assumption)).mono ?_; rintro e w3 ⟨rfl, h3⟩)
    clear HD1 HD2
    cases ho : dsE a.data.toList b.data.toList with
    | none =>
      simp only [dN, dF]
      go_wp2_with (go_at_call 12; refine (alive_acc (by assumption)).mono ?_; rintro e w1 ⟨rfl, h1⟩)
      go_ret
      exact ⟨by simp, h1.bel⟩
    | some n =>
      have HZ : Hid (n = 0 ↔ a.data.toList = b.data.toList) := dsE_zero ho
      simp only [dN, dF]
      clear ho
      go_wp2_with (go_at_call 12; refine (alive_acc (by assumption)).mono ?_; rintro e w1 ⟨rfl, h1⟩)
      go_ret
      refine ⟨ret_bool ?_, h1.bel⟩
      rw [ByteArray.toList_eq, ByteArray.toList_eq]
      by_cases hab : a.data.toList = b.data.toList
      · rw [HZ.out.2 hab, hab]; simp
      · have hn0 : n ≠ 0 := fun e => hab (HZ.out.1 e)
        rw [show (a.data.toList == b.data.toList) = false from beq_eq_false_iff_ne.2 hab, show ((n : Int) == 0) = false from beq_eq_false_iff_ne.2 (by omega)]
        rfl
  · have HN : Hid (decide (a.size ≤ 1200 ∧ b.size ≤ 1200) = false) := decide_eq_false hn
    clear hn
    go_enter Tryd.func5, Tryd.ntmps5
    go_upto_region 2 with (go_at_call 11; refine (near_any a b _ ha hb).mono ?_; rintro e w' ⟨rfl, rfl⟩; rw [HN.out])
    go_wp2_with (go_at_call 12; refine (alive_acc (by assumption)).mono ?_; rintro e w1 ⟨rfl, h1⟩)
    go_ret
    exact ⟨rfl, h1.bel⟩

set_option maxHeartbeats 1000000 in
theorem around_walk (a b c : ByteArray) (w : World) (ht : Tabs w) (ha : a.size ≤ 9223372036854775807) (hb : b.size ≤ 9223372036854775807) (hc : c.size ≤ 9223372036854775807) :
    Calls Tryd.prog 6 #[.string a, .string b, .string c] w fun e w' => e = .returned (.bool true) ∧ Below w.heap.size w w' := by
  have h0 := Acc.refl ht
  by_cases hn : a.size ≤ 1200 ∧ b.size ≤ 1200
  · have HN : Hid (decide (a.size ≤ 1200 ∧ b.size ≤ 1200) = true) := decide_eq_true hn
    by_cases hn2 : b.size ≤ 1200 ∧ c.size ≤ 1200
    · have HN2 : Hid (decide (b.size ≤ 1200 ∧ c.size ≤ 1200) = true) := decide_eq_true hn2
      clear hn hn2
      have HD1 := fun {w0 w : World} (h : Acc w0 w) => Distance_acc h a b ha hb
      have HD2 := fun {w0 w : World} (h : Acc w0 w) => Distance_acc h b c hb hc
      have HD3 := fun {w0 w : World} (h : Acc w0 w) => Distance_acc h a c ha hc
      go_enter Tryd.func6, Tryd.ntmps6
      go_upto_region 3 with (go_at_call 11; refine (near_any _ _ _ (by assumption) (by assumption)).mono ?_; rintro e w' ⟨rfl, rfl⟩; first | rw [HN.out] | rw [HN2.out])
      go_upto_region 4 with (go_at_call 13; refine (HD1 (by assumption)).mono ?_; rintro e w2 ⟨rfl, h2⟩)
      go_upto_region 5 with (go_at_call 13; refine (HD2 (by assumption)).mono ?_; rintro e w3 ⟨rfl, h3⟩)
      go_upto_region 6 with (go_at_call 13; refine (HD3 (by assumption)).mono ?_; rintro e w4 ⟨rfl, h4⟩)
      clear HD1 HD2 HD3
      cases ho : dsE a.data.toList b.data.toList with
      | none =>
        generalize dsE a.data.toList c.data.toList = o3
        generalize dsE b.data.toList c.data.toList = o2
        simp only [dN, dF]
        go_wp2_with (go_at_call 12; refine (alive_acc (by assumption)).mono ?_; rintro e w1 ⟨rfl, h1⟩)
        all_goals
          go_ret
          exact ⟨by simp, h1.bel⟩
      | some n =>
        cases ho2 : dsE b.data.toList c.data.toList with
        | none =>
          generalize dsE a.data.toList c.data.toList = o3
          clear ho
          simp only [dN, dF]
          go_wp2_with (go_at_call 12; refine (alive_acc (by assumption)).mono ?_; rintro e w1 ⟨rfl, h1⟩)
          all_goals
            go_ret
            exact ⟨by simp, h1.bel⟩
        | some m =>
          obtain ⟨l, ho3, hle⟩ := dsE_tri ho ho2
          have b1 := ds_small ho
          have b2 := ds_small ho2
          have hw : IntKind.i64.wrap ((n : Int) + (m : Int)) = (n : Int) + (m : Int) := by rw [IntKind.wrap_i64]; omega
          rw [ho3]
          clear ho ho2 ho3
          simp only [dN, dF]
          go_wp2_with (go_at_call 12; refine (alive_acc (by assumption)).mono ?_; rintro e w1 ⟨rfl, h1⟩)
          go_ret
          exact ⟨by simp; omega, h1.bel⟩
    · have HN2 : Hid (decide (b.size ≤ 1200 ∧ c.size ≤ 1200) = false) := decide_eq_false hn2
      clear hn hn2
      go_enter Tryd.func6, Tryd.ntmps6
      go_upto_region 2 with (go_at_call 11; refine (near_any _ _ _ (by assumption) (by assumption)).mono ?_; rintro e w' ⟨rfl, rfl⟩; first | rw [HN.out] | rw [HN2.out])
      go_wp2_with (go_at_call 12; refine (alive_acc (by assumption)).mono ?_; rintro e w1 ⟨rfl, h1⟩)
      go_ret
      exact ⟨rfl, h1.bel⟩
  · have HN : Hid (decide (a.size ≤ 1200 ∧ b.size ≤ 1200) = false) := decide_eq_false hn
    clear hn
    go_enter Tryd.func6, Tryd.ntmps6
    go_upto_region 2 with (go_at_call 11; refine (near_any a b _ ha hb).mono ?_; rintro e w' ⟨rfl, rfl⟩; rw [HN.out])
    go_wp2_with (go_at_call 12; refine (alive_acc (by assumption)).mono ?_; rintro e w1 ⟨rfl, h1⟩)
    go_ret
    exact ⟨rfl, h1.bel⟩
end Go.Proofs.YtjfbildaaobfpaaDoor
