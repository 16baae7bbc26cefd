/- Cut: what the seat's translation lacks is left out. -/
/- edit.next: the next row of distances. -/
import Derived.Test.YtfhmamalanloaaaDoorEdRows
namespace Go.Proofs.YtfhmamalanloaaaDoor
open Go.RowKit Nums Ed
set_option maxRecDepth 100000

theorem new_cell (w : World) (v : Value) (T : TypeId) : (w.alloc (.cells #[v] T)).cell? ⟨w.heap.size, 0, none⟩ = some v := by simp
/-- The least of three. -/
def min3 (a b c : Int) : Int := if c < (if b < a then b else a) then c else (if b < a then b else a)
theorem run_min3 (ts : Array TypeId) (ty : TypeId) (k : IntKind) (a b c : Int) (w : World) : (Builtin.min_ ts ty #[.int k a, .int k b, .int k c]).run Tryd.prog w = .ok (.int k (min3 a b c)) w := by
  simp [Builtin.min_, Builtin.min2, min3, Sem.run_pure]
theorem exec_min3 {ρ : Operand → Value} {x y z : Operand} {ts : Array TypeId} {dst : Option Tmp} {ty : TypeId} {pos : String} {af : Array Edge} {g : Option (Nat × Bool)} {w : World} {k : IntKind} {a b c : Int} (hx : ρ x = .int k a) (hy : ρ y = .int k b) (hz : ρ z = .int k c) :
    (execOp ρ ⟨dst, .call { callee := .builtin .min, args := #[x, y, z], argTypes := ts }, ty, pos, af, g⟩).run Tryd.prog w = .ok (.value (.int k (min3 a b c))) w := by
  unfold execOp
  simp only [resolve, invoke, builtin, Sem.run_bind, Sem.run_pure, Result.andThen_ok, List.map_toArray, List.map_cons, List.map_nil, hx, hy, hz, run_min3]
theorem exec_app {P : Program} {ρ : Operand → Value} {x y : Operand} {t : TypeId} {dst : Option Tmp} {ty : TypeId} {pos : String} {af : Array Edge} {g : Option (Nat × Bool)} {w w' : World} {v : Value} (h : (Builtin.append_ #[t, t] ty #[ρ x, ρ y]).run P w = .ok v w') :
    (execOp ρ ⟨dst, .call { callee := .builtin .append, args := #[x, y], argTypes := #[t, t] }, ty, pos, af, g⟩).run P w = .ok (.value v) w' := by
  unfold execOp
  simp only [resolve, invoke, builtin, Sem.run_bind, Sem.run_pure, Result.andThen_ok, List.map_toArray, List.map_cons, List.map_nil, h]

end Go.Proofs.YtfhmamalanloaaaDoor
