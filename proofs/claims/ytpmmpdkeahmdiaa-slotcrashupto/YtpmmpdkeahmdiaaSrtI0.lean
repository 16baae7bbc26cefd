/- The library's sort at int: rows of numbers in memory, and what turns when one is sorted. -/
import Derived.Test.YtpmmpdkeahmdiaaDisk
import Derived.Sort.Row
import Derived.Sort.AssemblyPlain
import Derived.CellFam
import Derived.BigGuard
import Derived.BigCall
import Derived.BigQuiet
import Derived.Deep.QuietTactic
import Derived.RegionTactic
import Derived.BigRegion
namespace Go.Proofs.Ytpmmpdkeahmdiaa
open Go.RowKit Go.Sort
set_option maxRecDepth 100000
namespace SrtI

abbrev enc : Int → Value := Value.int .i64
/-- Block blk has turned in the n cells from off on alone; other blocks stand; new ones may be. -/
structure RStep (blk off n : Nat) (w w' : World) : Prop where
  os : w'.os = w.os
  tape : w'.tape = w.tape
  output : w'.output = w.output
  size : w.heap.size ≤ w'.heap.size
  block : ∀ k, k < w.heap.size → k ≠ blk → w'.heap[k]? = w.heap[k]?
  own : ∀ c e fr, w.heap[blk]? = some (.cells c e fr) → ∃ c', w'.heap[blk]? = some (.cells c' e fr) ∧ c'.size = c.size ∧ ∀ k, k < off ∨ off + n ≤ k → c'[k]? = c[k]?
theorem RStep.refl (blk off n : Nat) (w : World) : RStep blk off n w w := ⟨rfl, rfl, rfl, Nat.le_refl _, fun _ _ _ => rfl, fun c _ _ h => ⟨c, h, rfl, fun _ _ => rfl⟩⟩
theorem RStep.trans {blk off n : Nat} {a b c : World} (h : RStep blk off n a b) (k : RStep blk off n b c) : RStep blk off n a c :=
  ⟨k.os.trans h.os, k.tape.trans h.tape, k.output.trans h.output, Nat.le_trans h.size k.size, fun i hi hr => (k.block i (Nat.lt_of_lt_of_le hi h.size) hr).trans (h.block i hi hr), fun c e fr hc => by
    obtain ⟨c1, h1, h2, h3⟩ := h.own c e fr hc
    obtain ⟨c2, k1, k2, k3⟩ := k.own c1 e fr h1
    exact ⟨c2, k1, k2.trans h2, fun i hi => (k3 i hi).trans (h3 i hi)⟩⟩
theorem RStep.drewN {blk off n : Nat} {a w : World} (h : RStep blk off n a w) (m : Nat) : RStep blk off n a (w.drewN m) := ⟨h.os, h.tape, h.output, h.size, h.block, h.own⟩
theorem RStep.drew {blk off n : Nat} {a w : World} (h : RStep blk off n a w) : RStep blk off n a w.drew := ⟨h.os, h.tape, h.output, h.size, h.block, h.own⟩
theorem RStep.setCell {blk off n : Nat} {a w : World} (h : RStep blk off n a w) {i : Nat} (hi : i < n) (v : Value) : RStep blk off n a (w.setCell ⟨blk, off + i, none⟩ v) :=
  h.trans ⟨rfl, rfl, rfl, by simp [World.setCell], fun k _ hk => Below.heap_setCell _ _ _ _ hk, fun c e fr hc => ⟨c.setIfInBounds (off + i) v, by simp [World.setCell, Array.getElem?_modify, hc], by simp, fun k hk => by
    rw [Array.getElem?_setIfInBounds_ne (by omega)]⟩⟩
theorem RStep.alloc {blk off n : Nat} {a w : World} (h : RStep blk off n a w) (hb : blk < w.heap.size) (o : Obj) : RStep blk off n a (w.alloc o) :=
  h.trans ⟨rfl, rfl, rfl, by simp, fun k hk _ => Below.heap_alloc _ _ _ hk, fun c e fr hc => ⟨c, (Below.heap_alloc _ _ _ hb).trans hc, rfl, fun _ _ => rfl⟩⟩
theorem holds_swap {w : World} {blk off : Nat} {d : Array Int} (h : Holds enc w blk off d) {i j : Nat} (hi : i < d.size) (hj : j < d.size) :
    Holds enc ((w.setCell ⟨blk, off + i, none⟩ (enc d[j]!)).setCell ⟨blk, off + j, none⟩ (enc d[i]!)) blk off (swp d i j) := by
  rw [show (w.setCell ⟨blk, off + i, none⟩ (enc d[j]!)).setCell ⟨blk, off + j, none⟩ (enc d[i]!) = putRow enc w blk off (swp d i j) from by
    rw [← putRow_swp enc w blk off d i j hi hj, putRow_self enc w blk off d h]]
  exact holds_putRow enc w blk off d (swp d i j) h (size_swp d i j)
theorem holds_drewN {w : World} {blk off : Nat} {d : Array Int} (h : Holds enc w blk off d) (n : Nat) : Holds enc (w.drewN n) blk off d := h
theorem holds_drew {w : World} {blk off : Nat} {d : Array Int} (h : Holds enc w blk off d) : Holds enc w.drew blk off d := h
theorem holds_same {w w' : World} {blk off : Nat} {d : Array Int} (h : Holds enc w blk off d) (e : w'.heap[blk]? = w.heap[blk]?) : Holds enc w' blk off d := fun j hj =>
  ⟨(World.cell?_of_block (w := w) (a := ⟨blk, off + j, none⟩) e).trans (h j hj).1, (World.frozen?_of_block (w := w) (a := ⟨blk, off + j, none⟩) e).trans (h j hj).2⟩
/-- A row whose numbers are d, behind what has been done since w. -/
structure At (blk off : Nat) (w w' : World) (n : Nat) (d : Array Int) : Prop where
  holds : Holds enc w' blk off d
  size : d.size = n
  step : RStep blk off n w w'
theorem At.drewN {blk off n : Nat} {w w' : World} {d : Array Int} (h : At blk off w w' n d) (m : Nat) : At blk off w (w'.drewN m) n d := ⟨h.holds, h.size, h.step.drewN m⟩
theorem At.drew {blk off n : Nat} {w w' : World} {d : Array Int} (h : At blk off w w' n d) : At blk off w w'.drew n d := ⟨h.holds, h.size, h.step.drew⟩
theorem At.swap {blk off n : Nat} {w w' : World} {d : Array Int} (h : At blk off w w' n d) {i j : Nat} (hi : i < n) (hj : j < n) :
    At blk off w ((w'.setCell ⟨blk, off + i, none⟩ (enc d[j]!)).setCell ⟨blk, off + j, none⟩ (enc d[i]!)) n (swp d i j) :=
  ⟨holds_swap h.holds (by rw [h.size]; exact hi) (by rw [h.size]; exact hj), by rw [size_swp]; exact h.size, (h.step.setCell hi _).setCell hj _⟩
theorem At.trans {blk off n : Nat} {w w1 w2 : World} {d d' : Array Int} (h : At blk off w w1 n d) (k : At blk off w1 w2 n d') : At blk off w w2 n d' := ⟨k.holds, k.size, h.step.trans k.step⟩
/-- The families that the walk reads. -/
theorem At.fam {blk off n : Nat} {w w' : World} {d : Array Int} (h : At blk off w w' n d) : ∃ G : Nat → Int, (∀ t, G t = d[t]!) ∧ (∀ t, t < n → w'.cell? ⟨blk, off + t, none⟩ = some (.int .i64 (G t))) ∧ ∀ t, t < n → w'.frozen? ⟨blk, off + t, none⟩ = false :=
  ⟨fun t => d[t]!, fun _ => rfl, fun t ht => (h.holds t (by rw [h.size]; exact ht)).1, fun t ht => (h.holds t (by rw [h.size]; exact ht)).2⟩

theorem wrapId {x : Int} (h1 : -9223372036854775808 ≤ x) (h2 : x ≤ 9223372036854775807) : IntKind.i64.wrap x = x := by
  simp [IntKind.wrap, IntKind.bits, IntKind.signed]; omega
set_option maxHeartbeats 1000000 in
theorem isNaN_any (x : Int) (w : World) : Calls Try.prog 124 #[.int .i64 x] w fun e w' => e = .returned (.bool false) ∧ w' = w := by
  go_enter Try.func124, Try.ntmps124
  go_wp2
  go_ret
  exact ⟨by simp, rfl⟩
set_option maxHeartbeats 1000000 in
theorem Less_any (x y : Int) (w : World) : Calls Try.prog 112 #[.int .i64 x, .int .i64 y] w fun e w' => e = .returned (.bool (ltInt x y)) ∧ w' = w := by
  go_enter Try.func112, Try.ntmps112
  go_wp2_with (go_at_call 124; refine (isNaN_any _ _).mono ?_; rintro e w' ⟨rfl, rfl⟩)
  go_ret
  exact ⟨rfl, rfl⟩
end SrtI
end Go.Proofs.Ytpmmpdkeahmdiaa
