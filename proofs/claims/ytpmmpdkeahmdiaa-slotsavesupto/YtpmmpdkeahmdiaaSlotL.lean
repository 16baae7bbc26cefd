/- What a Save leaves; the statements' alive. -/
import Derived.Test.YtpmmpdkeahmdiaaSlotM
import Derived.Test.YtpmmpdkeahmdiaaSlotO
import Derived.Test.YtpmmpdkeahmdiaaLkAll
namespace Go.Proofs.Ytpmmpdkeahmdiaa
open Go.RowKit
set_option maxRecDepth 100000

theorem openS_le (S : List Sec) (a : Int) : numC 0 (curOf S a 0) ≤ (openS S a).1 ∧ numC 1 (curOf S a 1) ≤ (openS S a).1 := by
  rw [openS_C, open_num]; omega
theorem cur_saved {S : List Sec} (hs : S.Pairwise Sec.before) (a : Int) (j : Nat) (B : List Nat) (i : Nat) : curOf (sy a (wr a (j : Int) B S)) a (i : Int) = if j = i then some B else curOf S a (i : Int) := by
  rw [cur_sy, cur_wr hs]
  by_cases h : j = i
  · rw [if_pos ⟨rfl, by omega⟩, if_pos h]
  · rw [if_neg (fun hh => h (by omega)), if_neg h]
theorem open_saved {S : List Sec} {a : Int} {n : Nat} {xs : List Nat} (hs : S.Pairwise Sec.before) (ho : (openS S a).1 = n) (hn : n + 1 < 18446744073709551616) (hl : xs.length ≤ 48) :
    openS (sy a (wr a (((n + 1) % 2 : Nat) : Int) (laySec (n + 1) xs) S)) a = (n + 1, xs) := by
  have h := openS_le S a
  rw [ho] at h
  rw [openS_C]
  have c0 := cur_saved hs a ((n + 1) % 2) (laySec (n + 1) xs) 0
  have c1 := cur_saved hs a ((n + 1) % 2) (laySec (n + 1) xs) 1
  simp only [Int.natCast_zero, Int.natCast_one] at c0 c1
  rw [c0, c1]
  exact open_new hn hl h.1 h.2
theorem open_other {S : List Sec} {a b : Int} {j : Int} {B : List Nat} (hs : S.Pairwise Sec.before) (hab : b ≠ a) : openS (sy a (wr a j B S)) b = openS S b := by
  rw [openS_C, openS_C, cur_sy, cur_sy, cur_wr hs, cur_wr hs, if_neg (fun h => hab h.1), if_neg (fun h => hab h.1)]
theorem open_nil (a : Int) : openS [] a = (0, []) := rfl
theorem sorted_at {N : Nat} {w : World} {p : Nat} {d : DS} {fp : List Nat} (h : DiskAt N w p d fp) : d.secs.Pairwise Sec.before := by obtain ⟨_, _, _, hr, _⟩ := h; exact hr.sorted
end Go.Proofs.Ytpmmpdkeahmdiaa
