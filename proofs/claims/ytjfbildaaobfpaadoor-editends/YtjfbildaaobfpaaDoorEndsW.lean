/- EditEnds: the walk. -/
import Derived.Test.YtjfbildaaobfpaaDoorBoundsW
import Derived.Test.YtjfbildaaobfpaaDoorWhole
namespace Go.Proofs.YtjfbildaaobfpaaDoor
open Go.RowKit Nums Ed
set_option maxRecDepth 100000

theorem rs_joined {a b : List UInt8} {xs ys : List Int} (h : rs a = some xs) (k : rs b = some ys) : rs (a ++ b) = some (xs ++ ys) := by
  have h2 := rs_write h
  have h3 := rs_texts xs h2.1 b
  rw [h2.2, k] at h3
  exact h3
theorem ds_ends {h t a b : List UInt8} {x z : List Int} {n : Nat} (hh : rs h = some x) (ht : rs t = some z) (hn : dsE a b = some n) (ha : h.length + a.length + t.length ≤ 1024) (hb : h.length + b.length + t.length ≤ 1024) :
    dsE (h ++ a ++ t) (h ++ b ++ t) = some n := by
  obtain ⟨p, q, h1, h2, rfl⟩ := dsE_out hn
  have e1 := rs_joined (rs_joined hh (rsE_out h1).1) ht
  have e2 := rs_joined (rs_joined hh (rsE_out h2).1) ht
  have l1 := (rs_len e1).2
  have l2 := (rs_len e2).2
  simp only [List.length_append] at l1 l2
  rw [dsE_some (rsE_some e1 (by simp only [List.length_append]; omega)) (rsE_some e2 (by simp only [List.length_append]; omega)), lv_post, lv_pre]
theorem app_data (a b : ByteArray) : (a ++ b).data.toList = a.data.toList ++ b.data.toList := by simp

set_option maxHeartbeats 1000000 in
theorem ends_walk (a b : ByteArray) (h t : ByteArray) (w : World) (htb : Tabs w) (ha : a.size ≤ 9223372036854775807) (hb : b.size ≤ 9223372036854775807) (hh : h.size ≤ 9223372036854775807) (ht : t.size ≤ 9223372036854775807) :
    Calls Tryd.prog 8 #[.string a, .string b, .agg #[.string h, .string t]] w fun e w' => e = .returned (.bool true) ∧ Below w.heap.size w w' := by
  have h0 := Acc.refl htb
  go_enter Tryd.func8, Tryd.ntmps8
  go_wp2
  go_quiet (fail)
  obtain ⟨W1, hW1⟩ : ∃ W1, W1 = (w.alloc (Obj.cells #[Value.string h, Value.string t] 31)).drewN nq := ⟨_, rfl⟩
  have hA1 : Acc w W1 := by
    rw [hW1]
    exact h0.step (below_drewN ((Below.refl _ w).alloc (Nat.le_refl _) _) _)
  rw [← hW1]
  clear hW1
  by_cases c1 : h.size ≤ 300
  · by_cases c2 : t.size ≤ 300
    · by_cases c3 : a.size ≤ 300
      · by_cases c4 : b.size ≤ 300
        · have HD1 := fun {w0 w : World} (h : Acc w0 w) => Distance_acc h a b ha hb
          have HD2 := fun {w0 w : World} (h1 : Acc w0 w) => Distance_acc h1 (h ++ a ++ t) (h ++ b ++ t) (by simp; omega) (by simp; omega)
          simp only [app_data] at HD2
          have HR1 := fun {w0 w : World} (h1 : Acc w0 w) => RefRunes_acc h1 h (by omega)
          have HR2 := fun {w0 w : World} (h1 : Acc w0 w) => RefRunes_acc h1 t (by omega)
          have HE : Hid (∀ x z n, rs h.data.toList = some x → rs t.data.toList = some z → dsE a.data.toList b.data.toList = some n → dsE (h.data.toList ++ a.data.toList ++ t.data.toList) (h.data.toList ++ b.data.toList ++ t.data.toList) = some n) :=
            fun x z n e1 e2 e3 => ds_ends e1 e2 e3 (by simp only [size_length]; omega) (by simp only [size_length]; omega)
          obtain ⟨o2, ho2⟩ : ∃ o2, o2 = dsE (h.data.toList ++ a.data.toList ++ t.data.toList) (h.data.toList ++ b.data.toList ++ t.data.toList) := ⟨_, rfl⟩
          rw [← ho2] at HE
          rw [← ho2] at HD2
          clear ho2
          go_upto_region 4 with (fail)
          go_upto_region 5 with (go_at_call 16; refine (HR1 (by assumption)).mono ?_; rintro e w2 ⟨va, rfl, h2, _, hva⟩)
          go_upto_region 6 with (go_at_call 16; refine (HR2 (by assumption)).mono ?_; rintro e w3 ⟨vb, rfl, h3, _, hvb⟩)
          go_upto_region 7 with (go_at_call 13; refine (HD1 (by assumption)).mono ?_; rintro e w4 ⟨rfl, h4⟩)
          go_upto_region 8 with (go_at_call 13; refine (HD2 (by assumption)).mono ?_; rintro e w5 ⟨rfl, h5⟩)
          clear HD1 HD2 HR1 HR2 hva hvb
          cases e1 : rs h.data.toList with
          | none =>
            clear HE
            simp only [Option.isSome_none]
            generalize dsE a.data.toList b.data.toList = o1
            generalize (rs t.data.toList).isSome = f2
            go_wp2_with (go_at_call 12; refine (alive_acc (by assumption)).mono ?_; rintro e w1 ⟨rfl, h1⟩)
            all_goals
              go_ret
              exact ⟨by simp, h1.bel⟩
          | some x =>
            cases e2 : rs t.data.toList with
            | none =>
              clear HE
              simp only [Option.isSome_none, Option.isSome_some]
              generalize dsE a.data.toList b.data.toList = o1
              go_wp2_with (go_at_call 12; refine (alive_acc (by assumption)).mono ?_; rintro e w1 ⟨rfl, h1⟩)
              all_goals
                go_ret
                exact ⟨by simp, h1.bel⟩
            | some z =>
              cases e3 : dsE a.data.toList b.data.toList with
              | none =>
                clear HE
                simp only [Option.isSome_some, dN, dF]
                go_wp2_with (go_at_call 12; refine (alive_acc (by assumption)).mono ?_; rintro e w1 ⟨rfl, h1⟩)
                all_goals
                  go_ret
                  exact ⟨by simp, h1.bel⟩
              | some n =>
                obtain rfl := HE.out x z n e1 e2 e3
                clear HE
                simp only [Option.isSome_some, dN, dF]
                go_wp2_with (go_at_call 12; refine (alive_acc (by assumption)).mono ?_; rintro e w1 ⟨rfl, h1⟩)
                all_goals
                  go_ret
                  exact ⟨by simp, h1.bel⟩
        · skip
          go_wp2_with (go_at_call 12; refine (alive_acc (by assumption)).mono ?_; rintro e w1 ⟨rfl, h1⟩)
          all_goals
            go_ret
            exact ⟨by simp, h1.bel⟩
      · skip
        go_wp2_with (go_at_call 12; refine (alive_acc (by assumption)).mono ?_; rintro e w1 ⟨rfl, h1⟩)
        all_goals
          go_ret
          exact ⟨by simp, h1.bel⟩
    · skip
      go_wp2_with (go_at_call 12; refine (alive_acc (by assumption)).mono ?_; rintro e w1 ⟨rfl, h1⟩)
      all_goals
        go_ret
        exact ⟨by simp, h1.bel⟩
  · skip
    go_wp2_with (go_at_call 12; refine (alive_acc (by assumption)).mono ?_; rintro e w1 ⟨rfl, h1⟩)
    all_goals
      go_ret
      exact ⟨by simp, h1.bel⟩
end Go.Proofs.YtjfbildaaobfpaaDoor
