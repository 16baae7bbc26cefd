/- Cut: what the seat's translation lacks is left out. -/
/- An iterator and its consumer: which blocks are whose; ranges over an iterator that writes cells of its own. -/
import Derived.Test.YtncnefpkfbngaaaGreatDoorFBld
import Derived.Test.YtncnefpkfbngaaaGreatDoorJ3
import Derived.RangeFuncNested
namespace Go.Proofs.YtncnefpkfbngaaaGreatDoor
open Go.RowKit Nums Fm
set_option maxRecDepth 100000

/-- The consumer's blocks may grow by new ones. -/
def Ext (A A' : Nat → Prop) (w : World) : Prop := (∀ k, A k → A' k) ∧ ∀ k, A' k → A k ∨ w.heap.size ≤ k
theorem Ext.refl (A : Nat → Prop) (w : World) : Ext A A w := ⟨fun _ h => h, fun _ h => .inl h⟩
theorem Ext.trans {A A' A'' : Nat → Prop} {w w' : World} (h : Ext A A' w) (h' : Ext A' A'' w') (hs : w.heap.size ≤ w'.heap.size) : Ext A A'' w :=
 ⟨fun k hk => h'.1 k (h.1 k hk), fun k hk => (h'.2 k hk).elim (h.2 k) (fun g => .inr (Nat.le_trans hs g))⟩
abbrev CI := (Nat → Prop) → List Pr → World → Prop
theorem Upd.put {W : World} (l : Nat) (o : Obj) : Upd (fun k => k = l) W (W.putObj l o) :=
 ⟨rfl, rfl, rfl, by simp, fun k _ hk => World.putObj_heap_other hk⟩
end Go.Proofs.YtncnefpkfbngaaaGreatDoor
