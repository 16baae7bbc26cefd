/- EditBounds: the walk. -/
import Derived.Test.YtjfbildaaobfpaaDoorEdRef
namespace Go.Proofs.YtjfbildaaobfpaaDoor
open Go.RowKit Nums Ed
set_option maxRecDepth 100000

/-- The runes of a text, or none. -/
def rl (l : List UInt8) : List Int := (rs l).getD []
theorem rl_len (l : List UInt8) : (rl l).length ≤ l.length := by
  unfold rl
  cases h : rs l with
  | none => simp
  | some xs => exact (rs_len h).2
theorem rl_some {l : List UInt8} {xs : List Int} (h : rs l = some xs) : rl l = xs := by unfold rl; rw [h]; rfl
theorem RunSays.runes {w w' : World} {l : List UInt8} {v : Value} {f : Bool} (h : RunSays w w' l v f) : RunesAt w'.heap.size w' v (rl l) := by
  rcases h with ⟨_, h, rfl⟩ | ⟨_, xs, h, m⟩
  · unfold rl; rw [h]; exact ⟨none, 0, rfl, fun h => by simp at h⟩
  · rw [rl_some h]; exact m.runes
theorem RunSays.flag {w w' : World} {l : List UInt8} {v : Value} {f : Bool} (h : RunSays w w' l v f) : f = (rs l).isSome := by
  rcases h with ⟨rfl, h, rfl⟩ | ⟨rfl, xs, h, m⟩
  · rw [h]; rfl
  · rw [h]; rfl
theorem RefRunes_acc {w0 w : World} (h : Acc w0 w) (s : ByteArray) (hm : s.size ≤ 1000000) :
    Calls Tryd.prog 16 #[.string s] w fun e w' => ∃ v, e = .returned (.tuple #[v, .bool (rs s.data.toList).isSome]) ∧ Acc w0 w' ∧ Below w.heap.size w w' ∧ RunesAt w'.heap.size w' v (rl s.data.toList) := by
  refine (RefRunes_is s w hm).mono ?_
  rintro e w' ⟨v, f, rfl, hb, hs⟩
  exact ⟨v, by rw [hs.flag], h.step hb, hb, hs.runes⟩
def max2 (a b : Int) : Int := if a < b then b else a
theorem run_max2 (ts : Array TypeId) (ty : TypeId) (k : IntKind) (a b : Int) (w : World) : (Builtin.max_ ts ty #[.int k a, .int k b]).run Tryd.prog w = .ok (.int k (max2 a b)) w := by
  simp [Builtin.max_, Builtin.max2, max2, Sem.run_pure]
attribute [local go_sem ↓] run_max2

set_option maxHeartbeats 1000000 in
theorem bounds_walk (a b : ByteArray) (w : World) (ht : Tabs w) (ha : a.size ≤ 9223372036854775807) (hb : b.size ≤ 9223372036854775807) :
    Calls Tryd.prog 7 #[.string a, .string b] w fun e w' => e = .returned (.bool true) ∧ Below w.heap.size w w' := by
  have h0 := Acc.refl ht
  by_cases hn : a.size ≤ 1200 ∧ b.size ≤ 1200
  · have HN : Hid (decide (a.size ≤ 1200 ∧ b.size ≤ 1200) = true) := decide_eq_true hn
    obtain ⟨ha2, hb2⟩ := hn
    have HD1 := fun {w0 w : World} (h : Acc w0 w) => Distance_acc h a b ha hb
    go_enter Tryd.func7, Tryd.ntmps7
    go_upto_region 3 with (go_at_call 11; refine (near_any a b _ ha hb).mono ?_; rintro e w' ⟨rfl, rfl⟩; rw [HN.out])
    go_upto_region 4 with (go_at_call 16; refine (RefRunes_acc (by assumption) a (by omega)).mono ?_; rintro e w2 ⟨va, rfl, h2, _, hva⟩)
    go_upto_region 5 with (go_at_call 16; refine (RefRunes_acc (by assumption) b (by omega)).mono ?_; rintro e w3 ⟨vb, rfl, h3, _, hvb⟩)
    go_upto_region 6 with (go_at_call 13; refine (HD1 (by assumption)).mono ?_; rintro e w4 ⟨rfl, h4⟩)
    obtain ⟨ada, capa, rfl⟩ := hva.form
    obtain ⟨adb, capb, rfl⟩ := hvb.form
    clear HD1 hva hvb
    have hla := rl_len a.data.toList
    have hlb := rl_len b.data.toList
    rw [size_length] at hla hlb
    have HB : Hid (∀ n, dsE a.data.toList b.data.toList = some n → (rl a.data.toList).length ≤ (rl b.data.toList).length + n ∧ (rl b.data.toList).length ≤ (rl a.data.toList).length + n ∧ (n ≤ (rl a.data.toList).length ∨ n ≤ (rl b.data.toList).length)) := by
      intro n ho
      obtain ⟨x, y, h1, h2, rfl⟩ := dsE_out ho
      rw [rl_some (rsE_out h1).1, rl_some (rsE_out h2).1]
      exact lv_bds x y
    generalize (rl a.data.toList).length = la at *
    generalize (rl b.data.toList).length = lb at *
    generalize dsE a.data.toList b.data.toList = o at *
    generalize (rs a.data.toList).isSome = fa
    generalize (rs b.data.toList).isSome = fb
    have hw1 : IntKind.i64.wrap ((la : Int) - (lb : Int)) = (la : Int) - (lb : Int) := by rw [IntKind.wrap_i64]; omega
    by_cases hlt : la < lb
    · have hw2 : IntKind.i64.wrap (-((la : Int) - (lb : Int))) = (lb : Int) - (la : Int) := by rw [IntKind.wrap_i64]; omega
      have hl0 : (la : Int) - (lb : Int) < 0 := by omega
      cases o with
      | none =>
        clear HB
        simp only [dN, dF]
        go_wp2_with (go_at_call 12; refine (alive_acc (by assumption)).mono ?_; rintro e w1 ⟨rfl, h1⟩)
        go_ret
        exact ⟨by simp, h1.bel⟩
      | some n =>
        obtain ⟨b1, b2, b3⟩ := HB.out n rfl
        clear HB
        have HG : Hid ((lb : Int) - (la : Int) ≤ (n : Int)) := by unfold Hid; omega
        simp only [dN, dF]
        go_wp2_with (go_at_call 12; refine (alive_acc (by assumption)).mono ?_; rintro e w1 ⟨rfl, h1⟩)
        go_ret
        refine ⟨ret_bool ?_, h1.bel⟩
        unfold max2
        simp
        split <;> omega
    · have hl0 : ¬ (la : Int) - (lb : Int) < 0 := by omega
      cases o with
      | none =>
        clear HB
        simp only [dN, dF]
        go_wp2_with (go_at_call 12; refine (alive_acc (by assumption)).mono ?_; rintro e w1 ⟨rfl, h1⟩)
        go_ret
        exact ⟨by simp, h1.bel⟩
      | some n =>
        obtain ⟨b1, b2, b3⟩ := HB.out n rfl
        clear HB
        simp only [dN, dF]
        go_wp2_with (go_at_call 12; refine (alive_acc (by assumption)).mono ?_; rintro e w1 ⟨rfl, h1⟩)
        go_ret
        refine ⟨ret_bool ?_, h1.bel⟩
        unfold max2
        simp
        split <;> omega
  · have HN : Hid (decide (a.size ≤ 1200 ∧ b.size ≤ 1200) = false) := decide_eq_false hn
    clear hn
    go_enter Tryd.func7, Tryd.ntmps7
    go_upto_region 2 with (go_at_call 11; refine (near_any a b _ ha hb).mono ?_; rintro e w' ⟨rfl, rfl⟩; rw [HN.out])
    go_wp2_with (go_at_call 12; refine (alive_acc (by assumption)).mono ?_; rintro e w1 ⟨rfl, h1⟩)
    go_ret
    exact ⟨rfl, h1.bel⟩
end Go.Proofs.YtjfbildaaobfpaaDoor
