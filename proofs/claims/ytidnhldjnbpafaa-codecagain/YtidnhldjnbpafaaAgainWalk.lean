/- CodecAgain: the law's own walk. -/
import Derived.Test.YtidnhldjnbpafaaMore
namespace Go.Proofs.Ytidnhldjnbpafaa
open Go.RowKit
set_option maxRecDepth 100000
attribute [local go_sem ↓] Go.wp_at_zero Go.wp_at_succ

theorem front_all {xs : List Nat} (hx : ∀ x ∈ xs, x < 256) : front xs 18446744073709551615 = num xs 0 0 := by
  have h := num_facts xs 0 0 (by decide) (by decide) hx
  unfold front
  rw [if_neg]
  rintro ⟨h1, h2⟩
  have := h.1 h1
  omega

set_option maxHeartbeats 8000000 in
theorem again_walk (v : Value) (w : World) (xs : List Nat) (hrow : Row w.heap.size w v xs) (hl : xs.length ≤ 140737488351232) (hx : ∀ x ∈ xs, x < 256) :
    Calls Try.prog 7 #[v] w fun e w' => e = .returned (.bool true) ∧ Below w.heap.size w w' := by
  have HR : Hid (Row w.heap.size w v xs) := hrow
  have HX : Hid (∀ x ∈ xs, x < 256) := hx
  obtain ⟨ao, cap, rfl, hcap⟩ := hrow.shape
  have hff := front_facts xs 18446744073709551615 hx
  have hfa := front_all hx
  clear hrow hx
  go_enter Try.func7, Try.ntmps7
  go_wp2_with fail
  refine (Read_any _ _ _ _ HR.out HX.out (by omega)).mono ?_
  rintro e w1 ⟨rb, rfl, hrb, hrd, hb1⟩
  have hs1 := hb1.size
  have HRD1 : Hid (Rd w1 rb xs 0) := hrd
  clear hrd
  go_wp2_with fail
  refine (Uint_any rb _ 0 18446744073709551615 w1 HRD1.out).mono ?_
  by_cases hz : (front xs 18446744073709551615).2.2 = 0
  · obtain ⟨g1, g2, g3, g4, _, _⟩ := hff.1 hz
    have hu : uintR xs 0 18446744073709551615 = ((front xs 18446744073709551615).1, xs.drop (front xs 18446744073709551615).2.1, 0) := by rw [uintR, if_neg (by simp), if_neg (by simp [hz])]
    have hagain : uw (front xs 18446744073709551615).1 = xs.take (front xs 18446744073709551615).2.1 := by
      rw [hfa] at hz ⊢; exact num_again HX.out hz
    rw [hu]
    generalize (front xs 18446744073709551615).1 = n at g4 hagain
    generalize (front xs 18446744073709551615).2.1 = k at g1 g2 g3 hagain
    have HA : Hid (uw n = xs.take k) := hagain
    clear hu hff hfa hz hagain
    rintro e w2 ⟨rfl, hrd2, hbut2⟩
    have hb02 := hb1.trans (hbut2.below hrb hs1)
    have hs2 := hb02.size
    have HRD2 : Hid (Rd w2 rb (xs.drop k) 0) := hrd2
    clear hrd2 hbut2 HRD1 hb1
    go_wp2_with fail
    refine (Err_any rb _ 0 w2 HRD2.out).mono ?_
    rintro e w2' ⟨rfl, rfl⟩
    have HT : Hid (∀ w', Below w2'.heap.size w2' w' → (convert 22 9 (.slice ao k cap)).run Try.prog w' = .ok (.string (strB (uw n))) w') := fun w' h => by
      rw [HA.out]; exact (row_take (HR.out.below (hb02.trans (h.mono hs2))) g2).str
    have hLl : (xs.drop k).length = xs.length - k := List.length_drop
    have HD : Hid (∀ w', Below w2'.heap.size w2' w' → Rd w' rb (xs.drop k) 0) := fun w' h => HRD2.out.but h
    generalize xs.drop k = rs at HD hLl
    have hsub : (xs.length : Int) - (rs.length : Int) = (k : Int) := by omega
    have hrl : (0 : Int) ≤ (rs.length : Int) := by omega
    have hk0 : (0 : Int) ≤ (k : Int) := by omega
    have hkc : (k : Int) ≤ (cap : Int) := by omega
    have hkl : (k : Int) ≤ (xs.length : Int) := by omega
    obtain ⟨b, off, rfl⟩ : ∃ b off, ao = some ⟨b, off, none⟩ := by
      obtain ⟨ao', cap', e, _, _, hc⟩ := HR.out
      simp only [Value.slice.injEq] at e
      obtain ⟨rfl, _, rfl⟩ := e
      obtain ⟨b, off, e, _⟩ := hc (by omega)
      exact ⟨b, off, e⟩
    have hwk : IntKind.i64.wrap (k : Int) = (k : Int) := by simp [IntKind.wrap, IntKind.bits, IntKind.signed]; omega
    clear hLl HRD2
    go_wp2_with fail
    go_region_law (first
      | (go_simp; go_at_call 10; refine (alive_any _).mono ?_; rintro e w4 ⟨rfl, hb4⟩; have hk4 : Below w2'.heap.size w2' w4 := ((Below.refl _ _).drew).trans hb4; have hs4 := hk4.size; have hd4 := HD.out w4 hk4; have c4 := HT.out w4 hk4)
      | (go_simp; go_at_call 11; refine (PutUint_any w4.heap.size _ [] n _ (Bytes.nil _ _) (Nat.le_refl _) g4 (by simp)).mono ?_; rintro e w5 ⟨v5, rfl, hown5, hb5⟩; have hk5 := bel_callB hk4 hb5 hs4; have hd5 := HD.out w5 hk5; have c5 := HT.out w5 hk5; have hc5 := hown5.row.str)
      | (go_simp; go_at_call 23; refine (Left_any rb rs 0 _ (by assumption)).mono ?_; rintro e w6 ⟨rfl, hw6⟩; subst hw6))
    all_goals go_wp2
    all_goals go_ret
    all_goals exact ⟨rfl, hb02.trans (hk5.mono hs2)⟩
  · obtain ⟨g1, g2, g3⟩ := hff.2 hz
    have hu : uintR xs 0 18446744073709551615 = (0, xs, ((front xs 18446744073709551615).2.2 : Int)) := by rw [uintR, if_neg (by simp), if_pos hz]
    rw [hu]
    generalize (front xs 18446744073709551615).2.2 = f at hz g3
    clear hu hff hfa g1 g2
    rintro e w2 ⟨rfl, hrd2, hbut2⟩
    have hb02 := hb1.trans (hbut2.below hrb hs1)
    have hs2 := hb02.size
    have HRD2 : Hid (Rd w2 rb xs (f : Int)) := hrd2
    have hb : ((f : Int) == 0) = false := by simpa using hz
    clear hrd2 hbut2 HRD1 hb1 hz
    go_wp2_with fail
    refine (Err_any rb _ _ w2 HRD2.out).mono ?_
    rintro e w2' ⟨rfl, rfl⟩
    go_wp2_with fail
    refine (alive_any w2').mono ?_
    rintro e w3 ⟨rfl, hb3⟩
    go_wp2_with fail
    refine (Left_any rb _ _ w3 (HRD2.out.but hb3)).mono ?_
    rintro e w3' ⟨rfl, rfl⟩
    go_wp2_with fail
    go_ret
    exact ⟨rfl, hb02.trans (hb3.mono hs2)⟩
end Go.Proofs.Ytidnhldjnbpafaa
