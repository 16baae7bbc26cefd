/- LettersWords: the law's own walk. -/
import Derived.Test.YtoikilbndhjfcabDoorRefWord
namespace Go.Proofs.YtoikilbndhjfcabDoor
open Go.RowKit Nums
set_option maxRecDepth 100000

set_option maxHeartbeats 1000000 in
theorem words_walk (s : ByteArray) (w : World) (ht : Tabs w) (hm : s.size ≤ 9223372036854775807) :
    Calls Tryd.prog 4 #[.string s] w fun e w' => e = .returned (.bool true) ∧ Below w.heap.size w w' := by
  go_enter Tryd.func4, Tryd.ntmps4
  go_wp2_with fail
  refine (alive_any _ ht).mono ?_
  rintro e w1 ⟨rfl, hb1⟩
  go_wp2_with fail
  refine (Word_any s _ (ht.below hb1) hm).mono ?_
  rintro e w2 ⟨rfl, n2, rfl⟩
  go_wp2_with fail
  refine (RefWord_any s _ hm).mono ?_
  rintro e w3 ⟨rfl, hb3⟩
  have hb4 : Below w.heap.size w w3 := (below_drewN hb1 n2).trans (hb3.mono (by simpa using hb1.size))
  clear hb1 hb3
  generalize wordB s.data.toList = b at *
  cases b
  all_goals
    go_wp2
    go_ret
    exact ⟨rfl, hb4⟩
end Go.Proofs.YtoikilbndhjfcabDoor
