/- The library's sort at int: slices.Sort. -/
import Derived.Test.YtpmmpdkeahmdiaaSrtI10
namespace Go.Proofs.Ytpmmpdkeahmdiaa
open Go.RowKit Go.Sort
set_option maxRecDepth 100000
namespace SrtI

/-- The numbers in rising order. -/
def sorted (xs : List Int) : List Int := xs.mergeSort (fun x y => decide (x ≤ y))
theorem sorts_sorted {blk off n : Nat} {d : Array Int} {w0 w w' : World} {e : Ending} (hA : At blk off w0 w n d) (h : Sorts blk off n 0 n d w0 e w') : e = .returned (.tuple #[]) ∧ At blk off w0 w' n (sorted d.toList).toArray := by
  obtain ⟨h1, R, h2, h3, h4⟩ := h
  refine ⟨h1, ?_⟩
  have hs := hA.size
  subst hs
  have hu := sorted_unique_holds swo_ltInt (fun x y h1 h2 => by simp only [ltInt, decide_eq_false_iff_not] at h1 h2; omega) d R h2 h3
  have hf : (fun x y : Int => !ltInt y x) = (fun x y => decide (x ≤ y)) := by
    funext x y
    by_cases hxy : x ≤ y
    · have : ¬ y < x := by omega
      simp [ltInt, hxy, this]
    · have : y < x := by omega
      simp [ltInt, hxy, this]
  rw [hf] at hu
  have : R = (sorted d.toList).toArray := by
    apply Array.ext'
    rw [hu]
    rfl
  rw [← this]
  exact h4
set_option maxHeartbeats 4000000 in
theorem Sort_any (blk off cap n : Nat) (d : Array Int) (w0 w : World) (hA : At blk off w0 w n d) (hlow : blk < w0.heap.size) (hsz : n < 2305843009213693952) :
    Calls Try.prog 85 #[.slice (some ⟨blk, off, none⟩) n cap] w fun e w' => e = .returned (.tuple #[]) ∧ At blk off w0 w' n (sorted d.toList).toArray := by
  have HA : Hid (At blk off w0 w n d) := hA
  have hLen : ∀ w, Calls Try.prog 90 #[.int .u64 (n : Int)] w fun e w' => e = .returned (.int .i64 (bitsLen n : Nat)) ∧ w' = w := fun w => by
    have h := bits_Len (n : Int) w (by omega) (by omega)
    rwa [Int.toNat_natCast, bitLen_eq _ (by omega)] at h
  have HL : Hid (∀ w, Calls Try.prog 90 #[.int .u64 (n : Int)] w fun e w' => e = .returned (.int .i64 (bitsLen n : Nat)) ∧ w' = w) := hLen
  have hk : bitsLen n ≤ 62 := (bitsLen_le_iff n 62).2 (by omega)
  have HP : Hid (Calls Try.prog 93 #[.slice (some ⟨blk, off, none⟩) n cap, .int .i64 ((0 : Nat) : Int), .int .i64 (n : Int), .int .i64 (bitsLen n : Nat)] w (Sorts blk off n 0 n d w0)) :=
    pdq_any n blk off cap 0 n n (bitsLen n) d w0 w (by omega) hA hlow (Nat.zero_le _) (Nat.le_refl _) hsz (by omega) (.inl rfl)
  clear hA hLen
  go_enter Try.func85, Try.ntmps85
  go_wp2_with (first | (go_at_call 90; refine (HL.out _).mono ?_; rintro e w' ⟨rfl, rfl⟩) | (go_at_call 93; refine HP.out.mono ?_; rintro e w' hS; obtain ⟨rfl, hA'⟩ := sorts_sorted HA.out hS))
  go_end0
  exact ⟨rfl, hA'⟩
set_option maxHeartbeats 4000000 in
theorem insertion_nil (w : World) : Calls Try.prog 106 #[.slice none 0 0, .int .i64 0, .int .i64 0] w fun e w' => e = .returned (.tuple #[]) ∧ w' = w := by
  go_enter Try.func106, Try.ntmps106
  go_wp2
  refine wp_loop_rounds 1 ?_
  rw [rounds_succ]
  go_wp2
  go_end0
  exact ⟨rfl, rfl⟩
set_option maxHeartbeats 4000000 in
theorem pdq_nil (w : World) : Calls Try.prog 93 #[.slice none 0 0, .int .i64 0, .int .i64 0, .int .i64 0] w fun e w' => e = .returned (.tuple #[]) ∧ w' = w := by
  go_enter Try.func93, Try.ntmps93
  go_wp2
  refine wp_loop_rounds 1 ?_
  rw [rounds_succ]
  go_wp2_with (go_at_call 106; refine (insertion_nil _).mono ?_; rintro e w' ⟨rfl, rfl⟩)
  go_returns
  exact ⟨rfl, rfl⟩
set_option maxHeartbeats 4000000 in
theorem Sort_nil (w : World) : Calls Try.prog 85 #[.slice none 0 0] w fun e w' => e = .returned (.tuple #[]) ∧ w' = w := by
  have hLen : ∀ w, Calls Try.prog 90 #[.int .u64 0] w fun e w' => e = .returned (.int .i64 0) ∧ w' = w := fun w => bits_Len 0 w (by omega) (by omega)
  go_enter Try.func85, Try.ntmps85
  go_wp2_with (first | (go_at_call 90; refine (hLen _).mono ?_; rintro e w' ⟨rfl, rfl⟩) | (go_at_call 93; refine (pdq_nil _).mono ?_; rintro e w' ⟨rfl, rfl⟩))
  go_end0
  exact ⟨rfl, rfl⟩
end SrtI
end Go.Proofs.Ytpmmpdkeahmdiaa
