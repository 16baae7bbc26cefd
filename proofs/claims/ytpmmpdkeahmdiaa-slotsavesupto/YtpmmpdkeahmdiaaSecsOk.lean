/- The numbers of sectors stay in their bounds. -/
import Derived.Test.YtpmmpdkeahmdiaaSectors
import Derived.Test.YtpmmpdkeahmdiaaDoes
namespace Go.Proofs.Ytpmmpdkeahmdiaa
open Go.RowKit
set_option maxRecDepth 100000

theorem wr_ok {a n : Int} {v : List Nat} (hn : 0 ≤ n ∧ n < 65536) : ∀ {S : List Sec}, SecsOk S → SecsOk (wr a n v S)
  | [], _ => by
    intro s hs
    simp only [wr, List.mem_singleton] at hs
    subst hs
    show 0 ≤ n ∧ n < 16777216
    omega
  | t :: r, h => by
    intro s hs
    have ih := wr_ok (a := a) (v := v) hn (S := r) fun s hs => h s (.tail _ hs)
    have ht := h t (.head _)
    have hr : ∀ s ∈ r, 0 ≤ s.n ∧ s.n < 16777216 := fun s hs => h s (.tail _ hs)
    unfold wr at hs
    split at hs
    · rcases List.mem_cons.1 hs with rfl | hs
      · exact ht
      · exact hr s hs
    · split at hs
      · rcases List.mem_cons.1 hs with rfl | hs
        · show 0 ≤ n ∧ n < 16777216
          omega
        · exact h s hs
      · rcases List.mem_cons.1 hs with rfl | hs
        · exact ht
        · exact ih s hs
theorem doD_ok {d : DS} (o : OpC) (h : SecsOk d.secs) : SecsOk (doD d o).secs := by
  unfold doD
  split
  · unfold wrD
    split
    · exact h
    · split
      · exact h
      · split
        · exact h
        · rename_i hf _
          exact wr_ok (by unfold formBad at hf; omega) h
  · split
    · unfold syD
      split
      · intro s hs
        obtain ⟨t, ht, rfl⟩ := List.mem_map.1 hs
        split
        · exact h t ht
        · exact h t ht
      · rw [(stepD_secs _).1]; exact h
    · split
      · unfold frD
        split
        · intro s hs
          exact h s (List.mem_filter.1 hs).1
        · rw [(stepD_secs _).1]; exact h
      · split
        · unfold armD
          split <;> exact h
        · exact h
end Go.Proofs.Ytpmmpdkeahmdiaa
