/- pairs.gone. -/
import Derived.Test.YtjanhebckonbaaaDoorMerge6
import Derived.Handy
namespace Go.Proofs.YtjanhebckonbaaaDoor
open Go.RowKit Nums Pm
set_option maxRecDepth 100000
set_option maxHeartbeats 400000 in
theorem gone_any (s : ByteArray) (n : Int) (w : World) : Calls Tryd.prog 32 #[.agg #[.string s, .int .i64 n]] w fun e w' => e = .returned (.agg #[.string s, .int .i64 0]) ∧ Below w.heap.size w w' := by
  go_enter Tryd.func32, Tryd.ntmps32
  go_wp2
  go_returns
  exact ⟨rfl, ((Below.refl _ w).alloc (Nat.le_refl _) _).alloc (by simp) _⟩
end Go.Proofs.YtjanhebckonbaaaDoor
