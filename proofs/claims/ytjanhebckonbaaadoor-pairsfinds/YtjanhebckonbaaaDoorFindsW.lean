/- PairsFinds: the law's own walk. -/
import Derived.Test.YtjanhebckonbaaaDoorAlive6
import Derived.Test.YtjanhebckonbaaaDoorFind
namespace Go.Proofs.YtjanhebckonbaaaDoor
open Go.RowKit Nums Pm
set_option maxRecDepth 100000

set_option maxHeartbeats 1000000 in
theorem finds_walk (v : Value) (s : ByteArray) (w : World) (ht : Tabs w) (l : List Pr) (h : PRow w v l) (_ : Sm l) (hl : l.length ≤ 9223372036854775807) :
    Calls Tryd.prog 5 #[v, .string s] w fun e w' => e = .returned (.bool true) ∧ Below w.heap.size w w' := by
  go_enter Tryd.func5, Tryd.ntmps5
  go_wp2_with fail
  refine (Find_any w v l s h hl).mono ?_
  rintro e w1 ⟨rfl, rfl⟩
  go_wp2_with fail
  refine (refFind_any _ v l s h hl).mono ?_
  rintro e w2 ⟨rfl, rfl⟩
  go_wp2_with fail
  refine (alive_any _ ht).mono ?_
  rintro e w3 ⟨rfl, hb3⟩
  generalize (Pm.find l s).getD 0 = n at *
  generalize (Pm.find l s).isSome = b at *
  cases b
  all_goals
    go_wp2
    go_ret
    exact ⟨by simp, hb3⟩
end Go.Proofs.YtjanhebckonbaaaDoor
