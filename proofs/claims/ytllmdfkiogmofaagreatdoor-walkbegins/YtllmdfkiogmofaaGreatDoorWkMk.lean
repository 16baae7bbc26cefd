/- Cut: what the seat's translation lacks is left out. -/
/- A walk on a dictionary's machine; alive; on. -/
import Derived.Test.YtllmdfkiogmofaaGreatDoorJ14
import Derived.Test.YtllmdfkiogmofaaGreatDoorWkF2
import Derived.Test.YtllmdfkiogmofaaGreatDoorJ19
import Derived.Test.YtllmdfkiogmofaaGreatDoorJ8
import Derived.Test.YtllmdfkiogmofaaGreatDoorBuiltAt
namespace Go.Proofs.YtllmdfkiogmofaaGreatDoor
open Go.RowKit Nums Fm Pk Pm
set_option maxRecDepth 100000

theorem three_new (w : World) (x y z : Pr) (T : TypeId) (c : Nat) : PRow (w.alloc (.cells #[.string x.1, .int .i64 x.2, .string y.1, .int .i64 y.2, .string z.1, .int .i64 z.2] T)) (.slice (some ⟨w.heap.size, 0, none⟩) 3 c) [x, y, z] := by
  refine ⟨_, c, rfl, fun _ => ⟨w.heap.size, 0, rfl, by simp, fun i u hi => ?_⟩⟩
  match i, hi with
  | 0, hi => simp at hi; subst hi; exact ⟨by simp, by simp⟩
  | 1, hi => simp at hi; subst hi; exact ⟨by simp, by simp⟩
  | 2, hi => simp at hi; subst hi; exact ⟨by simp, by simp⟩
  | n + 3, hi => simp at hi
theorem make_all (w : World) (v : Value) (l : List Pr) (h : PRow w v l) (hC : buildE l = 0) : MakeSays v l w := refMake_any w v l h hC fun hl w2 v2 _ hr => state_top w2 v2 l hC hl hr
theorem NewW_any (B : Nat) (w : World) (l : List Pr) (base : Int) (vs : Value) (b : List St) (hC : buildE l = 0) (hrow : StRow B w vs b) (hmach : machOf l = (base, b)) (hT : Tabs w) :
    Calls Tryz.prog 10 #[.agg #[.int .i64 base, vs]] w fun e w' => ∃ wb, e = .returned (.tuple #[.pointer (some ⟨wb, 0, none⟩), .bool true]) ∧ w.heap.size ≤ wb ∧ WkOn w' wb l ∧ Below w.heap.size w w' := by
  have hb2 : (machOf l).2 = b := by rw [hmach]
  have hb1 : (machOf l).1 = base := by rw [hmach]
  have hS := built_at hrow hC hb2
  have hr : rightB base (b.map ofSt) = true := by have := built_right hC; rw [hmach] at this; exact this
  have hfew : b.length ≤ 1048576 := by have := mach_few (l := l); rw [hmach] at this; simp only at this; omega
  obtain ⟨D, hI, hF, hM⟩ : ∃ D, Inv D b ∧ (∀ R ∈ D, R.length ≤ 4096) ∧ (l ≠ [] → MW l (machOf l).1 (machOf l).2 D) := by
    by_cases hl : l = []
    · subst hl
      have : b = [] := by rw [← hb2]; rfl
      subst this
      exact ⟨[], Inv.nil, fun R hR => (by cases hR), fun h => absurd rfl h⟩
    · obtain ⟨D, M⟩ := mach_walk hC hl
      exact ⟨D, by have := M.inv; rw [hb2] at this; exact this, M.rst.few, fun _ => M⟩
  have hsm : ∀ s ∈ b.map ofSt, s.arcs.length ≤ 1114112 := fun s hs => by
    obtain ⟨t, ht, rfl⟩ := List.mem_map.1 hs
    obtain ⟨i, hi, rfl⟩ := List.getElem_of_mem ht
    exact arcs_few hC (n := i) (by rw [hb2]; exact List.getElem?_eq_getElem hi)
  refine (New_yes w.heap.size w base b D hI hF vs hS (Nat.le_refl _) hT hfew hr hsm).mono ?_
  rintro e w' ⟨wb, rfl, h1, h2, h3⟩
  exact ⟨wb, rfl, h1, ⟨hC, hT.below h3, D, hM, by rw [hb2]; exact hI, by rw [hb1, hb2]; exact h2⟩, h3⟩
def al9 : List Pr := [(⟨#[97]⟩, 3), (⟨#[97, 98]⟩, 5), (⟨#[98]⟩, 2)]
theorem al9_e : buildE al9 = 0 := by decide +kernel
theorem al9_f : Pm.find al9 ⟨#[97, 98]⟩ = some 5 := by decide +kernel
theorem al9_r : FirstAt 3 (fun k => !lessB (al9.getD k zP).1 ⟨#[97, 97]⟩) 1 := by
  have e0 : (!lessB (al9.getD 0 zP).1 ⟨#[97, 97]⟩) = false := by decide +kernel
  have e1 : (!lessB (al9.getD 1 zP).1 ⟨#[97, 97]⟩) = true := by decide +kernel
  have e2 : (!lessB (al9.getD 2 zP).1 ⟨#[97, 97]⟩) = true := by decide +kernel
  refine ⟨by omega, fun k hk => ?_, fun k h1 h2 => ?_⟩
  · have : k = 0 := by omega
    subst this
    exact e0
  · have : k = 1 ∨ k = 2 := by omega
    rcases this with rfl | rfl
    · exact e1
    · exact e2
set_option maxHeartbeats 2000000 in
theorem alive_any (w : World) (ht : Tabs w) : Calls Tryz.prog 9 #[] w fun e w' => e = .returned (.bool true) ∧ Below w.heap.size w w' := by
  have hb0 : ∀ o, Below w.heap.size w (w.alloc o) := fun o => (Below.refl _ w).alloc (Nat.le_refl _) o
  have HT : Hid (Tabs w) := ht
  have HB : Hid (∀ o, Below w.heap.size w (w.alloc o)) := hb0
  obtain ⟨W0, hW0⟩ : ∃ W0, W0 = w.alloc (.cells #[.string ⟨#[97]⟩, .int .i64 3, .string ⟨#[97, 98]⟩, .int .i64 5, .string ⟨#[98]⟩, .int .i64 2] 47) := ⟨_, rfl⟩
  have HBW : Hid (Below w.heap.size w W0) := by show Below _ _ _; rw [hW0]; exact hb0 _
  obtain ⟨ab, hab⟩ : ∃ ab, ab = w.heap.size := ⟨_, rfl⟩
  have HMK : Hid (MakeSays (.slice (some ⟨ab, 0, none⟩) 3 3) al9 W0) := make_all W0 _ al9 (by rw [hW0, hab]; exact three_new w (⟨#[97]⟩, 3) (⟨#[97, 98]⟩, 5) (⟨#[98]⟩, 2) _ 3) al9_e
  have HMK : Hid (Calls Tryz.prog 27 #[.slice (some ⟨ab, 0, none⟩) 3 3] W0 fun e w' => ∃ base vs b, e = .returned (.agg #[.int .i64 base, vs]) ∧ BuildSays W0 w' al9 base vs b) := HMK
  clear ht hb0
  go_enter Tryz.func9, Tryz.ntmps9
  go_upto_region 2 with (first
    | (go_at_call 27; rw [← hW0, ← hab]; refine HMK.out.mono ?_; rintro e w1 ⟨base, vs, b, rfl, hS⟩; obtain ⟨sd, nb, sc, hvs, hnb⟩ := StRow.form hS.row; subst hvs; have HS : Hid (BuildSays W0 w1 al9 base (.slice sd nb sc) b) := hS; clear hS hnb)
    | (go_at_call 10; refine (NewW_any _ w1 al9 base _ b al9_e HS.out.row HS.out.mach (HT.out.below (HBW.out.trans (HS.out.bel.mono HBW.out.size)))).mono ?_; rintro e w2 ⟨wb, rfl, h1, hon, hb2⟩; have HON : Hid (WkOn w2 wb al9) := hon; have HB2 : Hid (Below w.heap.size w w2) := (HBW.out.trans (HS.out.bel.mono HBW.out.size)).trans (hb2.mono (HBW.out.trans (HS.out.bel.mono HBW.out.size)).size); clear hon hb2 h1))
  clear hW0 hab
  have HFD : Hid (Calls Tryz.prog 28 #[.pointer (some ⟨wb, 0, none⟩), .string ⟨#[97, 98]⟩] w2 fun e w' => e = .returned (.tuple #[.int .i64 5, .bool true]) ∧ Below w2.heap.size w2 w') := by
    have := Find_any w2 wb al9 HON.out ⟨#[97, 98]⟩ (by decide)
    rw [al9_f] at this
    exact this
  have HLN : Hid (∀ W, Below w2.heap.size w2 W → Calls Tryz.prog 13 #[.pointer (some ⟨wb, 0, none⟩)] W fun e w' => e = .returned (.int .i64 3) ∧ Below W.heap.size W w') := fun W hW => LenW_any W wb al9 (HON.out.below hW)
  have HRK : Hid (∀ W, Below w2.heap.size w2 W → Calls Tryz.prog 29 #[.pointer (some ⟨wb, 0, none⟩), .string ⟨#[97, 97]⟩] W fun e w' => e = .returned (.int .i64 1) ∧ Below W.heap.size W w') := fun W hW => by
    refine (Rank_any W wb al9 (HON.out.below hW) (by decide) (built_rising al9_e) ⟨#[97, 97]⟩).mono ?_
    rintro e w' ⟨r, rfl, h1, h2⟩
    have : r = 1 := first_one h1 al9_r
    subst this
    exact ⟨rfl, h2⟩
  go_wp2_with (first
    | (go_at_call 28; refine HFD.out.mono ?_; rintro e w3 ⟨rfl, hb3⟩; have HB3 : Hid (Below w2.heap.size w2 w3) := hb3; clear hb3)
    | (go_at_call 13; refine (HLN.out _ HB3.out).mono ?_; rintro e w4 ⟨rfl, hb4⟩; have HB4 : Hid (Below w2.heap.size w2 w4) := HB3.out.trans (hb4.mono HB3.out.size); clear hb4)
    | (go_at_call 29; refine (HRK.out _ HB4.out).mono ?_; rintro e w5 ⟨rfl, hb5⟩))
  go_ret
  have h1 := HB4.out.trans (hb5.mono HB4.out.size)
  exact ⟨rfl, HB2.out.trans (h1.mono HB2.out.size)⟩
theorem right_fault : ∀ (l : List Pr) (p : Option Pr), rightFrom p l = true → faultF p l = 0
  | [], _, _ => rfl
  | x :: r, p, h => by
    rw [rightFrom] at h
    simp only [Bool.and_eq_true] at h
    obtain ⟨h1, h2, h3⟩ := h
    unfold oneOk at h1
    simp only [Bool.and_eq_true, decide_eq_true_eq] at h1
    rw [faultF, one_ok h1.1 (by omega) (by omega) h2, if_pos rfl]
    exact right_fault r (some x) h3
theorem right_build {l : List Pr} (h : rightP l = true) : buildE l = 0 := by
  unfold rightP at h
  simp only [Bool.and_eq_true, decide_eq_true_eq] at h
  unfold buildE
  rw [if_neg (by omega)]
  exact right_fault l none h.2
/-- Is it asked on? -/
def onB (l : List Pr) : Bool := decide (l.length ≤ 300) && rightP l
end Go.Proofs.YtllmdfkiogmofaaGreatDoor
