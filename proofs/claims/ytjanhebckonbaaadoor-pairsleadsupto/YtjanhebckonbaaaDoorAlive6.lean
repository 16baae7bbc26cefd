/- alive: changes that are laid over two words. -/
import Derived.Test.YtjanhebckonbaaaDoorRight
import Derived.Test.YtjanhebckonbaaaDoorMerge6
namespace Go.Proofs.YtjanhebckonbaaaDoor
open Go.RowKit Nums Pm
set_option maxRecDepth 100000

def al1 : List Pr := [(⟨#[97]⟩, 1), (⟨#[98]⟩, 2)]
def al2 : List Pr := [(⟨#[98]⟩, 0), (⟨#[99]⟩, 5)]
def al3 : List Pr := [(⟨#[97]⟩, 1), (⟨#[99]⟩, 5)]
theorem al_merge : merge lessB al1 al2 = al3 := by decide +kernel
theorem al_right : rightP al3 = true := by decide +kernel
theorem al_sm : Sm al3 := by intro x hx; simp [al3] at hx; rcases hx with rfl | rfl <;> decide
/-- A row of two pairs in a block of their own. -/
theorem PRow.two {w : World} {g c : Nat} {x y : Pr} (h1 : TwoAt w g 0 x) (h2 : TwoAt w g 2 y) : PRow w (.slice (some ⟨g, 0, none⟩) 2 c) [x, y] :=
  ⟨_, c, rfl, fun _ => ⟨g, 0, rfl, h1.lt, fun i z hi => by
    match i, hi with
    | 0, hi => simp only [List.getElem?_cons_zero, Option.some.injEq] at hi; subst hi; simpa using h1
    | 1, hi => simp only [List.getElem?_cons_succ, List.getElem?_cons_zero, Option.some.injEq] at hi; subst hi; simpa using h2
    | i + 2, hi => simp at hi⟩⟩
theorem two_new (W : World) (x y : Pr) (T : TypeId) (c : Nat) : PRow (W.alloc (.cells #[.string x.1, .int .i64 x.2, .string y.1, .int .i64 y.2] T)) (.slice (some ⟨W.heap.size, 0, none⟩) 2 c) [x, y] :=
  PRow.two ⟨by simp, by simp⟩ ⟨by simp, by simp⟩
set_option maxHeartbeats 2000000 in
theorem alive_any (w : World) (ht : Tabs w) : Calls Tryd.prog 11 #[] w fun e w' => e = .returned (.bool true) ∧ Below w.heap.size w w' := by
  have HT : Hid (Tabs w) := ht
  have hp1 : ∀ o2, PRow ((w.alloc (.cells #[.string ⟨#[97]⟩, .int .i64 1, .string ⟨#[98]⟩, .int .i64 2] 32)).alloc o2) (.slice (some ⟨w.heap.size, 0, none⟩) 2 2) al1 := fun o2 => (two_new w (⟨#[97]⟩, 1) (⟨#[98]⟩, 2) _ 2).below ((Below.refl _ _).alloc (Nat.le_refl _) o2)
  have hp2 : ∀ o1, PRow ((w.alloc o1).alloc (.cells #[.string ⟨#[98]⟩, .int .i64 0, .string ⟨#[99]⟩, .int .i64 5] 32)) (.slice (some ⟨w.heap.size + 1, 0, none⟩) 2 2) al2 := fun o1 => by
    have h := two_new (w.alloc o1) (⟨#[98]⟩, 0) (⟨#[99]⟩, 5) 32 2
    have e : (w.alloc o1).heap.size = w.heap.size + 1 := by simp
    rw [e] at h
    exact h
  have HP : Hid (_ ∧ _) := ⟨hp1, hp2⟩
  have HB : Hid (∀ o1 o2, Below w.heap.size w ((w.alloc o1).alloc o2)) := fun o1 o2 => ((Below.refl _ w).alloc (Nat.le_refl _) o1).alloc (by simp) o2
  clear ht hp1 hp2
  go_enter Tryd.func11, Tryd.ntmps11
  go_upto_region 2 with (go_at_call 19; refine (Merge_any _ _ _ al1 al2 (HP.out.1 _) (HP.out.2 _) (by decide) (by decide)).mono ?_; rintro e w1 ⟨v1, rfl, ho1, hb1⟩)
  rw [al_merge] at ho1
  have HB1 : Hid (Below w.heap.size w w1) := (HB.out _ _).trans (hb1.mono (HB.out _ _).size)
  obtain ⟨ad, cap, rfl⟩ := ho1.shape
  have hr := ho1.row
  have hr2 : PRow w1 (.slice ad 2 cap) al3 := hr
  obtain ⟨g, off, rfl, hg, hc⟩ := hr2.at (by omega)
  obtain ⟨c0, c1⟩ := hc 1 (⟨#[99]⟩, 5) rfl
  have hri := Right_any w1 _ al3 hr (by decide) al_sm (HT.out.below HB1.out)
  rw [al_right] at hri
  have hl3 : al3.length = 2 := rfl
  rw [hl3] at hri ⊢
  clear hc hr hr2 ho1 hb1 hl3
  go_wp2_with (go_at_call 12; refine hri.mono ?_; rintro e w2 ⟨rfl, hb2⟩)
  go_ret
  exact ⟨rfl, HB1.out.trans (hb2.mono HB1.out.size)⟩
end Go.Proofs.YtjanhebckonbaaaDoor
