/- A disk of the reference as a result. -/
import Derived.Test.YtpmmpdkeahmdiaaRefRow
namespace Go.Proofs.Ytpmmpdkeahmdiaa
open Go.RowKit
set_option maxRecDepth 100000

theorem six_cells {w : World} {b : Nat} {v0 v1 v2 v3 v4 v5 : Value} {t : TypeId} (h : w.heap[b]? = some (.cells #[v0, v1, v2, v3, v4, v5] t (0, 0))) :
    w.cell? ⟨b, 0, none⟩ = some v0 ∧ w.cell? ⟨b, 1, none⟩ = some v1 ∧ w.cell? ⟨b, 2, none⟩ = some v2 ∧ w.cell? ⟨b, 3, none⟩ = some v3 ∧ w.cell? ⟨b, 4, none⟩ = some v4 ∧ w.cell? ⟨b, 5, none⟩ = some v5 ∧ (∀ o, w.frozen? ⟨b, o, none⟩ = false) := by
  refine ⟨?_, ?_, ?_, ?_, ?_, ?_, fun o => ?_⟩ <;> simp [World.cell?, World.frozen?, h]
theorem four_cells {w : World} {b : Nat} {v0 v1 v2 v3 : Value} {t : TypeId} (h : w.heap[b]? = some (.cells #[v0, v1, v2, v3] t (0, 0))) :
    w.cell? ⟨b, 0, none⟩ = some v0 ∧ w.cell? ⟨b, 1, none⟩ = some v1 ∧ w.cell? ⟨b, 2, none⟩ = some v2 ∧ w.cell? ⟨b, 3, none⟩ = some v3 ∧ (∀ o, w.frozen? ⟨b, o, none⟩ = false) := by
  refine ⟨?_, ?_, ?_, ?_, fun o => ?_⟩ <;> simp [World.cell?, World.frozen?, h]
theorem six_set {w : World} {b : Nat} {a0 a1 a2 a3 a4 a5 : Value} {t : TypeId} {f : Nat × Nat} (h : w.heap[b]? = some (.cells #[a0, a1, a2, a3, a4, a5] t f)) (v0 v1 v2 v3 v4 v5 : Value) :
    ((((((w.setCell ⟨b, 0, none⟩ v0).setCell ⟨b, 1, none⟩ v1).setCell ⟨b, 2, none⟩ v2).setCell ⟨b, 3, none⟩ v3).setCell ⟨b, 4, none⟩ v4).setCell ⟨b, 5, none⟩ v5).heap[b]? = some (.cells #[v0, v1, v2, v3, v4, v5] t f) := by
  rw [set_cell (set_cell (set_cell (set_cell (set_cell (set_cell h 0 v0) 1 v1) 2 v2) 3 v3) 4 v4) 5 v5]
  rfl
/-- Six stores into a block. -/
def six (w : World) (b : Nat) (v0 v1 v2 v3 v4 v5 : Value) : World := (((((w.setCell ⟨b, 0, none⟩ v0).setCell ⟨b, 1, none⟩ v1).setCell ⟨b, 2, none⟩ v2).setCell ⟨b, 3, none⟩ v3).setCell ⟨b, 4, none⟩ v4).setCell ⟨b, 5, none⟩ v5
theorem six_below {B : Nat} {a w : World} (h : Below B a w) {b : Nat} (hb : B ≤ b) (v0 v1 v2 v3 v4 v5 : Value) : Below B a (six w b v0 v1 v2 v3 v4 v5) :=
  (((((h.setCell (p := ⟨b, 0, none⟩) hb v0).setCell (p := ⟨b, 1, none⟩) hb v1).setCell (p := ⟨b, 2, none⟩) hb v2).setCell (p := ⟨b, 3, none⟩) hb v3).setCell (p := ⟨b, 4, none⟩) hb v4).setCell (p := ⟨b, 5, none⟩) hb v5
theorem six_far (w : World) (b k : Nat) (h : k ≠ b) (v0 v1 v2 v3 v4 v5 : Value) : (six w b v0 v1 v2 v3 v4 v5).heap[k]? = w.heap[k]? := by
  unfold six
  rw [Below.heap_setCell _ _ _ _ h, Below.heap_setCell _ _ _ _ h, Below.heap_setCell _ _ _ _ h, Below.heap_setCell _ _ _ _ h, Below.heap_setCell _ _ _ _ h, Below.heap_setCell _ _ _ _ h]
theorem ret_disk {fn : Func} {R : Ending → World → Prop} {a : Act} {w : World} {b t : Nat} {r : RD} {ad : Option Addr} {n c : Nat} (hf : fn.results = #[.cell t 27]) (ht : a.tmps[t]? = some (.pointer (some ⟨b, 0, none⟩)))
    (hb : w.heap[b]? = some (.cells #[.int .i64 r.room, .int .i64 r.steps, .int .i64 r.left, .bool r.armed, .bool r.dead, .slice ad n c] 27 (0, 0))) (hd : a.defers = []) (hR : R (.returned (rdV r (.slice ad n c))) w) : bodyPost Try.prog fn R .ret a w := by
  obtain ⟨c0, c1, c2, c3, c4, c5, cz⟩ := six_cells hb
  refine bodyPost_ret ?_ hd hR
  unfold rdV
  simp [results, hf, ht, go_sem, c0, c1, c2, c3, c4, c5]
  try rfl
theorem ret_disk2 {fn : Func} {R : Ending → World → Prop} {a : Act} {w : World} {b t u : Nat} {r : RD} {ad : Option Addr} {n c : Nat} {x : Value} (hf : fn.results = #[.cell t 27, .tmp u]) (ht : a.tmps[t]? = some (.pointer (some ⟨b, 0, none⟩))) (hu : a.tmps[u]? = some x)
    (hb : w.heap[b]? = some (.cells #[.int .i64 r.room, .int .i64 r.steps, .int .i64 r.left, .bool r.armed, .bool r.dead, .slice ad n c] 27 (0, 0))) (hd : a.defers = []) (hR : R (.returned (.tuple #[rdV r (.slice ad n c), x])) w) : bodyPost Try.prog fn R .ret a w := by
  obtain ⟨c0, c1, c2, c3, c4, c5, cz⟩ := six_cells hb
  refine bodyPost_ret ?_ hd hR
  unfold rdV
  simp [results, hf, ht, hu, go_sem, c0, c1, c2, c3, c4, c5]
  try rfl
end Go.Proofs.Ytpmmpdkeahmdiaa
