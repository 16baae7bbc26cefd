/- The reference's Once at any two rows; EditOnce: the walk. -/
import Derived.Test.YtjfbildaaobfpaaDoorEdOnce
import Derived.Test.YtjfbildaaobfpaaDoorBoundsW
namespace Go.Proofs.YtjfbildaaobfpaaDoor
open Go.RowKit Nums Ed
set_option maxRecDepth 100000

theorem Once_any (vx vy : Value) (xs ys : List Int) (w : World) (hx : RunesC w.heap.size w vx xs) (hy : RunesC w.heap.size w vy ys) (hxl : xs.length ≤ 1000000) (hyl : ys.length ≤ 1000000) :
    Calls Tryd.prog 17 #[vx, vy] w fun e w' => e = .returned (.bool (decide (lv xs ys = 1))) ∧ Below w.heap.size w w' := by
  by_cases hl : xs.length ≤ ys.length
  · refine (once_le vx vy xs ys w hx hy hl hyl).mono ?_
    rintro e w' ⟨rfl, n, rfl⟩
    exact ⟨by rw [onB_lv hl], below_drewN (Below.refl _ _) _⟩
  · have HC := once_le vy vx ys xs w hy hx (by omega) hxl
    rw [onB_lv (by omega), lv_comm] at HC
    obtain ⟨adx, capx, rfl⟩ := hx.1.form
    obtain ⟨ady, capy, rfl⟩ := hy.1.form
    clear hx hy
    go_enter Tryd.func17, Tryd.ntmps17
    go_wp2_with (go_at_call 17; refine HC.mono ?_; rintro e w1 ⟨rfl, n, rfl⟩)
    go_ret
    exact ⟨rfl, below_drewN (Below.refl _ _) _⟩
theorem RunSays.runesC {w w' : World} {l : List UInt8} {v : Value} {f : Bool} (h : RunSays w w' l v f) : RunesC w'.heap.size w' v (rl l) := by
  rcases h with ⟨_, h, rfl⟩ | ⟨_, xs, h, m⟩
  · unfold rl; rw [h]; exact ⟨⟨none, 0, rfl, fun h => by simp at h⟩, fun _ _ _ e => by cases e; exact Nat.le_refl _⟩
  · rw [rl_some h]; exact m.runesC
theorem RunesC.below {w w' : World} {v : Value} {xs : List Int} (h : RunesC w.heap.size w v xs) (hb : Below w.heap.size w w') : RunesC w'.heap.size w' v xs := ⟨(h.1.below hb).mono hb.size, h.2⟩
theorem RefRunes_accC {w0 w : World} (h : Acc w0 w) (s : ByteArray) (hm : s.size ≤ 1000000) :
    Calls Tryd.prog 16 #[.string s] w fun e w' => ∃ v, e = .returned (.tuple #[v, .bool (rs s.data.toList).isSome]) ∧ Acc w0 w' ∧ Below w.heap.size w w' ∧ RunesC w'.heap.size w' v (rl s.data.toList) := by
  refine (RefRunes_is s w hm).mono ?_
  rintro e w' ⟨v, f, rfl, hb, hs⟩
  exact ⟨v, by rw [hs.flag], h.step hb, hb, hs.runesC⟩
theorem Distance_accB {w0 w : World} (h : Acc w0 w) (a b : ByteArray) (ha : a.size ≤ 9223372036854775807) (hb : b.size ≤ 9223372036854775807) :
    Calls Tryd.prog 13 #[.string a, .string b] w fun e w' => e = .returned (.tuple #[.int .i64 (dN (dsE a.data.toList b.data.toList)), .bool (dF (dsE a.data.toList b.data.toList))]) ∧ Acc w0 w' ∧ Below w.heap.size w w' := by
  refine (Distance_is a b w h.tabs ha hb).mono ?_
  rintro e w' ⟨rfl, h2⟩
  exact ⟨rfl, h.step h2, h2⟩
theorem alive_accB {w0 w : World} (h : Acc w0 w) :
    Calls Tryd.prog 12 #[] w fun e w' => e = .returned (.bool true) ∧ Acc w0 w' ∧ Below w.heap.size w w' := by
  refine (alive_acc (Acc.refl h.tabs)).mono ?_
  rintro e w' ⟨rfl, h2⟩
  exact ⟨rfl, h.step h2.bel, h2.bel⟩

set_option maxHeartbeats 1000000 in
theorem once_walk (a b : ByteArray) (w : World) (ht : Tabs w) (ha : a.size ≤ 9223372036854775807) (hb : b.size ≤ 9223372036854775807) :
    Calls Tryd.prog 9 #[.string a, .string b] w fun e w' => e = .returned (.bool true) ∧ Below w.heap.size w w' := by
  have h0 := Acc.refl ht
  by_cases hn : a.size ≤ 1200 ∧ b.size ≤ 1200
  · have HN : Hid (decide (a.size ≤ 1200 ∧ b.size ≤ 1200) = true) := decide_eq_true hn
    obtain ⟨ha2, hb2⟩ := hn
    have HD1 := fun {w0 w : World} (h : Acc w0 w) => Distance_accB h a b ha hb
    have HR1 := fun {w0 w : World} (h : Acc w0 w) => RefRunes_accC h a (by omega)
    have HR2 := fun {w0 w : World} (h : Acc w0 w) => RefRunes_accC h b (by omega)
    go_enter Tryd.func9, Tryd.ntmps9
    go_upto_region 3 with (go_at_call 11; refine (near_any a b _ ha hb).mono ?_; rintro e w' ⟨rfl, rfl⟩; rw [HN.out])
    go_upto_region 4 with (go_at_call 16; refine (HR1 (by assumption)).mono ?_; rintro e w2 ⟨va, rfl, h2, B2, hva⟩)
    go_upto_region 5 with (go_at_call 16; refine (HR2 (by assumption)).mono ?_; rintro e w3 ⟨vb, rfl, h3, B3, hvb⟩)
    go_upto_region 6 with (go_at_call 13; refine (HD1 (by assumption)).mono ?_; rintro e w4 ⟨rfl, h4, B4⟩)
    have HA : Hid (RunesC w4.heap.size w4 va (rl a.data.toList)) := (hva.below B3).below B4
    have HB : Hid (RunesC w4.heap.size w4 vb (rl b.data.toList)) := hvb.below B4
    have hla := rl_len a.data.toList
    have hlb := rl_len b.data.toList
    rw [size_length] at hla hlb
    have HL : Hid (∀ n, dsE a.data.toList b.data.toList = some n → n = lv (rl a.data.toList) (rl b.data.toList)) := by
      intro n ho
      obtain ⟨x, y, h1, h2, rfl⟩ := dsE_out ho
      rw [rl_some (rsE_out h1).1, rl_some (rsE_out h2).1]
    generalize rl a.data.toList = xs at *
    generalize rl b.data.toList = ys at *
    generalize dsE a.data.toList b.data.toList = o at *
    generalize (rs a.data.toList).isSome = fa at *
    generalize (rs b.data.toList).isSome = fb at *
    clear HD1 HR1 HR2 hva hvb
    cases o with
    | none =>
      clear HL
      simp only [dN, dF]
      go_wp2_with (go_at_call 12; refine (alive_accB (by assumption)).mono ?_; rintro e w1 ⟨rfl, h1, B1⟩)
      go_ret
      exact ⟨by simp, h1.bel⟩
    | some n =>
      have HL2 : Hid (n = lv xs ys) := HL.out n rfl
      clear HL
      simp only [dN, dF]
      go_wp2_with (first
        | (go_at_call 12; refine (alive_accB (by assumption)).mono ?_; rintro e w1 ⟨rfl, h1, B1⟩)
        | (go_at_call 17; refine (Once_any _ _ xs ys _ (HA.out.below B1) (HB.out.below B1) (by omega) (by omega)).mono ?_; rintro e w6 ⟨rfl, B6⟩))
      go_ret
      refine ⟨ret_bool ?_, (h1.step B6).bel⟩
      rw [← HL2.out]
      by_cases e : n = 1
      · subst e; simp
      · rw [decide_eq_false e, show ((n : Int) == 1) = false from beq_eq_false_iff_ne.2 (by omega)]; rfl
  · have HN : Hid (decide (a.size ≤ 1200 ∧ b.size ≤ 1200) = false) := decide_eq_false hn
    clear hn
    go_enter Tryd.func9, Tryd.ntmps9
    go_upto_region 2 with (go_at_call 11; refine (near_any a b _ ha hb).mono ?_; rintro e w' ⟨rfl, rfl⟩; rw [HN.out])
    go_wp2_with (go_at_call 12; refine (alive_acc (by assumption)).mono ?_; rintro e w1 ⟨rfl, h1⟩)
    go_ret
    exact ⟨rfl, h1.bel⟩
end Go.Proofs.YtjfbildaaobfpaaDoor
