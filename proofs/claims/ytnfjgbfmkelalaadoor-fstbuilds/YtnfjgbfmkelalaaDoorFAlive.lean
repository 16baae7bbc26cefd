/- alive: the machine of three words; few. -/
import Derived.Test.YtnfjgbfmkelalaaDoorFBuild2
import Derived.Laws.StructEq
namespace Go.Proofs.YtnfjgbfmkelalaaDoor
open Go.RowKit Nums Fm
set_option maxRecDepth 100000

def al : List Pr := [(⟨#[97, 98]⟩, 5), (⟨#[98]⟩, 2), (⟨#[99, 98]⟩, 9)]
def alM : List St := [⟨true, 0, []⟩, ⟨false, 0, [⟨98, 0, 0⟩]⟩, ⟨false, 0, [⟨97, 3, 1⟩, ⟨98, 0, 0⟩, ⟨99, 7, 1⟩]⟩]
theorem al_e : buildE al = 0 := by decide +kernel
theorem al_m : machOf al = (2, alM) := by decide +kernel
theorem al_sm : Sm al := fun x hx => by simp [al] at hx; rcases hx with rfl | rfl | rfl <;> decide
theorem three_new (w : World) (x y z : Pr) (T : TypeId) (c : Nat) : PRow (w.alloc (.cells #[.string x.1, .int .i64 x.2, .string y.1, .int .i64 y.2, .string z.1, .int .i64 z.2] T)) (.slice (some ⟨w.heap.size, 0, none⟩) 3 c) [x, y, z] := by
  refine ⟨_, c, rfl, fun _ => ⟨w.heap.size, 0, rfl, by simp, fun i u hi => ?_⟩⟩
  match i, hi with
  | 0, hi => simp at hi; subst hi; exact ⟨by simp, by simp⟩
  | 1, hi => simp at hi; subst hi; exact ⟨by simp, by simp⟩
  | 2, hi => simp at hi; subst hi; exact ⟨by simp, by simp⟩
  | n + 3, hi => simp at hi
/-- The cells of a state in a row. -/
theorem StRow.at {B : Nat} {w : World} {vs : Value} {b : List St} (h : StRow B w vs b) (h0 : 0 < b.length) : ∃ g cap, vs = .slice (some ⟨g, 0, none⟩) b.length cap ∧ g < w.heap.size ∧ ∀ (i : Nat) (s : St), b[i]? = some s → ∃ va, AOwn B w va s.arcs ∧ w.cell? ⟨g, i * 3, none⟩ = some (.bool s.final) ∧ w.cell? ⟨g, i * 3 + 1, none⟩ = some (.int .i64 s.out) ∧ w.cell? ⟨g, i * 3 + 2, none⟩ = some va := by
  obtain ⟨xss, h1, h2, h3⟩ := h
  obtain ⟨g, cap, rfl, hg, _, _, hc⟩ := h1.cell (by omega)
  refine ⟨g, cap, by rw [h2], hg, fun i s hi => ?_⟩
  obtain ⟨va, h4, h5⟩ := h3 i s hi
  exact ⟨va, h5, hc i 0 _ _ h4 rfl, hc i 1 _ _ h4 rfl, hc i 2 _ _ h4 rfl⟩
theorem StRow.shape {B : Nat} {w : World} {vs : Value} {b : List St} (h : StRow B w vs b) : ∃ ad cap, vs = .slice ad b.length cap := by
  obtain ⟨xss, h1, h2, _⟩ := h
  obtain ⟨ad, cap, h3, _⟩ := h1.shape
  exact ⟨ad, cap, by rw [h3, h2]⟩
set_option maxHeartbeats 2000000 in
theorem alive_any (w : World) (ht : Tabs w) : Calls Tryd.prog 12 #[] w fun e w' => e = .returned (.bool true) ∧ Below w.heap.size w w' := by
  have hb0 : ∀ o, Below w.heap.size w (w.alloc o) := fun o => (Below.refl _ w).alloc (Nat.le_refl _) o
  have HT : Hid (∀ o, Tabs (w.alloc o)) := fun o => ht.below (hb0 o)
  have HB : Hid (∀ o, Below w.heap.size w (w.alloc o)) := hb0
  have HP : Hid (PRow (w.alloc (.cells #[.string ⟨#[97, 98]⟩, .int .i64 5, .string ⟨#[98]⟩, .int .i64 2, .string ⟨#[99, 98]⟩, .int .i64 9] 40)) (.slice (some ⟨w.heap.size, 0, none⟩) 3 3) al) := three_new w (⟨#[97, 98]⟩, 5) (⟨#[98]⟩, 2) (⟨#[99, 98]⟩, 9) _ 3
  clear ht hb0
  go_enter Tryd.func12, Tryd.ntmps12
  go_upto_region 2 with (go_at_call 13; refine (Build_any _ _ al HP.out (by decide) al_sm (HT.out _)).mono ?_; rintro e w1 ⟨base, vs, b, rfl, hS⟩; rw [al_e])
  obtain ⟨hbel, hrow, hmach⟩ := hS
  rw [al_m] at hmach
  simp only [Prod.mk.injEq] at hmach
  obtain ⟨rfl, rfl⟩ := hmach
  obtain ⟨g, cap, rfl, hg, hcell⟩ := hrow.at (by decide)
  obtain ⟨va, ha, _, _, c2⟩ := hcell 2 ⟨false, 0, [⟨97, 3, 1⟩, ⟨98, 0, 0⟩, ⟨99, 7, 1⟩]⟩ rfl
  obtain ⟨ga, ca, rfl, hga, _, _, hac⟩ := ha.at (by decide)
  obtain ⟨d0, d1, d2⟩ := hac 2 ⟨99, 7, 1⟩ rfl
  have hlen : alM.length = 3 := rfl
  have hlen2 : ([⟨97, 3, 1⟩, ⟨98, 0, 0⟩, ⟨99, 7, 1⟩] : List Arc).length = 3 := rfl
  rw [hlen]
  simp only [hlen2] at c2
  have HB1 : Hid (∀ o, Below w.heap.size w (w1.alloc o)) := fun o => ((HB.out _).trans (hbel.mono (HB.out _).size)).alloc (Nat.le_trans (HB.out (.cells #[] 0)).size (by have := hbel.size; simp at this ⊢; omega)) o
  have hA : ∀ o (p : Addr), p.block < w1.heap.size → (w1.alloc o).cell? p = w1.cell? p := fun o p hp => ((Below.refl _ w1).alloc (Nat.le_refl _) o).cell hp
  have c2' := fun o => (hA o ⟨g, 2 * 3 + 2, none⟩ hg).trans c2
  have d0' := fun o => (hA o ⟨ga, 2 * 3, none⟩ hga).trans d0
  have d1' := fun o => (hA o ⟨ga, 2 * 3 + 1, none⟩ hga).trans d1
  have d2' := fun o => (hA o ⟨ga, 2 * 3 + 2, none⟩ hga).trans d2
  clear hcell hac hrow hbel ha hlen hlen2 hA
  go_wp2
  go_ret
  exact ⟨rfl, HB1.out _⟩
set_option maxHeartbeats 400000 in
theorem few_any (ad : Option Addr) (n cap : Nat) (w : World) (hn : n ≤ 9223372036854775807) : Calls Tryd.prog 11 #[.slice ad n cap] w fun e w' => e = .returned (.bool (decide (n ≤ 300) || decide (4096 < n))) ∧ w' = w := by
  by_cases h1 : n ≤ 300
  · have h1z : (n : Int) ≤ 300 := by omega
    have HE : Hid ((decide (n ≤ 300) || decide (4096 < n)) = true) := by show _ = _; simp [h1]
    go_enter Tryd.func11, Tryd.ntmps11
    go_wp2
    go_ret
    exact ⟨by first | rfl | (rw [HE.out]; rfl), rfl⟩
  · have h1z : ¬ (n : Int) ≤ 300 := by omega
    by_cases h2 : 4096 < n
    · have h2z : (4096 : Int) < (n : Int) := by omega
      have HE : Hid ((decide (n ≤ 300) || decide (4096 < n)) = true) := by show _ = _; simp [h2]
      go_enter Tryd.func11, Tryd.ntmps11
      go_wp2
      go_ret
      exact ⟨by first | rfl | (rw [HE.out]; rfl), rfl⟩
    · have h2z : ¬ (4096 : Int) < (n : Int) := by omega
      have HE : Hid ((decide (n ≤ 300) || decide (4096 < n)) = false) := by show _ = _; simp [h1, h2]
      go_enter Tryd.func11, Tryd.ntmps11
      go_wp2
      go_ret
      exact ⟨by first | rfl | (rw [HE.out]; rfl), rfl⟩
end Go.Proofs.YtnfjgbfmkelalaaDoor
