/- A slot in memory; what Open finds. -/
import Derived.Test.YtpmmpdkeahmdiaaSecR
import Derived.Test.YtpmmpdkeahmdiaaRead
import Derived.Test.YtpmmpdkeahmdiaaSync
namespace Go.Proofs.Ytpmmpdkeahmdiaa
open Go.RowKit
set_option maxRecDepth 100000

/-- All bytes are bytes. -/
def ByteS (S : List Sec) : Prop := ∀ s ∈ S, (∀ v, s.last = some v → ∀ x ∈ v, x < 256) ∧ ∀ v ∈ s.fresh, ∀ x ∈ v, x < 256
theorem ByteS.cur {S : List Sec} (h : ByteS S) {a n : Int} {v : List Nat} (hc : curOf S a n = some v) : ∀ x ∈ v, x < 256 := by
  unfold curOf at hc
  cases hf : findS a n S with
  | none => rw [hf] at hc; cases hc
  | some s =>
    rw [hf] at hc
    have hs := h s (findS_mem hf)
    have hc' : s.cur = some v := hc
    unfold Sec.cur at hc'
    cases hl : s.fresh.getLast? with
    | none => simp [hl] at hc'; exact hs.1 v hc'
    | some x => simp [hl] at hc'; subst hc'; exact hs.2 _ (List.mem_of_getLast? hl)
/-- What Open has behind a sector. -/
def openStep (st : Nat × List Nat) (i : Nat) (o : Option (List Nat)) : Nat × List Nat := match o with
  | some bs => if RightS bs i ∧ st.1 < secN bs then (secN bs, secV bs) else st
  | none => st
def openK (S : List Sec) (a : Int) : Nat → Nat × List Nat
  | 0 => (0, [])
  | k + 1 => openStep (openK S a k) k (curOf S a (k : Int))
def openS (S : List Sec) (a : Int) : Nat × List Nat := openK S a 2
/-- A slot in block s: its disk, its area, its number, its value, which lies in block g. -/
def SlotAt (w : World) (s p : Nat) (a : Int) (n : Nat) (xs : List Nat) (g : Nat) : Prop :=
  ∃ ao cap, w.heap[s]? = some (.cells #[.pointer (some ⟨p, 0, none⟩), .int .u64 a, .int .u64 (n : Int), .slice ao xs.length cap] 103 (0, 0)) ∧ g < w.heap.size ∧ xs.length ≤ cap ∧ (ao = none → cap = 0) ∧
    (0 < xs.length → ∃ off, ao = some ⟨g, off, none⟩ ∧ ∀ i, i < xs.length → w.cell? ⟨g, off + i, none⟩ = some (bv (xs.getD i 0)))
theorem SlotAt.lt {w : World} {s p : Nat} {a : Int} {n : Nat} {xs : List Nat} {g : Nat} (h : SlotAt w s p a n xs g) : s < w.heap.size ∧ g < w.heap.size := by
  obtain ⟨ao, cap, h1, h2, _⟩ := h; exact ⟨(Array.getElem?_eq_some_iff.1 h1).1, h2⟩
theorem SlotAt.same {w w' : World} {s p : Nat} {a : Int} {n : Nat} {xs : List Nat} {g : Nat} (h : SlotAt w s p a n xs g) (hz : w.heap.size ≤ w'.heap.size) (hs : w'.heap[s]? = w.heap[s]?) (hg : w'.heap[g]? = w.heap[g]?) : SlotAt w' s p a n xs g := by
  obtain ⟨ao, cap, h1, h2, h3, h4, h5⟩ := h
  refine ⟨ao, cap, hs.trans h1, by omega, h3, h4, fun h0 => ?_⟩
  obtain ⟨off, e, hc⟩ := h5 h0
  exact ⟨off, e, fun i hi => (World.cell?_of_block (a := ⟨g, off + i, none⟩) hg).trans (hc i hi)⟩
theorem SlotAt.below {w w' : World} {s p : Nat} {a : Int} {n : Nat} {xs : List Nat} {g : Nat} (h : SlotAt w s p a n xs g) (hb : Below w.heap.size w w') : SlotAt w' s p a n xs g := h.same hb.size (hb.block s h.lt.1) (hb.block g h.lt.2)
theorem SlotAt.cells {w : World} {s p : Nat} {a : Int} {n : Nat} {xs : List Nat} {g : Nat} (h : SlotAt w s p a n xs g) : ∃ ao cap, w.cell? ⟨s, 0, none⟩ = some (.pointer (some ⟨p, 0, none⟩)) ∧ w.cell? ⟨s, 1, none⟩ = some (.int .u64 a) ∧ w.cell? ⟨s, 2, none⟩ = some (.int .u64 (n : Int)) ∧ w.cell? ⟨s, 3, none⟩ = some (.slice ao xs.length cap) ∧ (∀ o, w.frozen? ⟨s, o, none⟩ = false) ∧ Row w.heap.size w (.slice ao xs.length cap) xs := by
  obtain ⟨ao, cap, h1, h2, h3, h4, h5⟩ := h
  refine ⟨ao, cap, ?_, ?_, ?_, ?_, fun o => ?_, ⟨ao, cap, rfl, h3, h4, fun h0 => ?_⟩⟩
  · simp [World.cell?, h1]
  · simp [World.cell?, h1]
  · simp [World.cell?, h1]
  · simp [World.cell?, h1]
  · simp [World.frozen?, h1]
  · obtain ⟨off, e, hc⟩ := h5 h0
    exact ⟨g, off, e, h2, hc⟩
/-- A new number and a new value. -/
theorem SlotAt.put {w : World} {s p : Nat} {a : Int} {n n' : Nat} {xs ys : List Nat} {g g' off cap : Nat} (h : SlotAt w s p a n xs g) (hg : g' < w.heap.size) (hne : g' ≠ s) (hc : ys.length ≤ cap) (hr : ∀ i, i < ys.length → w.cell? ⟨g', off + i, none⟩ = some (bv (ys.getD i 0))) :
    SlotAt ((w.setCell ⟨s, 2, none⟩ (.int .u64 (n' : Int))).setCell ⟨s, 3, none⟩ (.slice (some ⟨g', off, none⟩) ys.length cap)) s p a n' ys g' := by
  obtain ⟨ao, c, h1, h2, h3, h4, h5⟩ := h
  have e1 := set_cell (set_cell h1 2 (.int .u64 (n' : Int))) 3 (.slice (some ⟨g', off, none⟩) ys.length cap)
  refine ⟨some ⟨g', off, none⟩, cap, e1, by simpa using hg, hc, (fun h => by cases h), fun _ => ⟨off, rfl, fun i hi => ?_⟩⟩
  refine (World.cell?_of_block (a := ⟨g', off + i, none⟩) ?_).trans (hr i hi)
  rw [Below.heap_setCell _ _ _ _ hne, Below.heap_setCell _ _ _ _ hne]
theorem slot_new (w : World) (p : Nat) (a : Int) : SlotAt (w.alloc (.cells #[.pointer (some ⟨p, 0, none⟩), .int .u64 a, .int .u64 0, .slice none 0 0] 103)) w.heap.size p a 0 [] w.heap.size :=
  ⟨none, 0, alloc_new _ _, by simp, Nat.le_refl _, fun _ => rfl, fun h => by simp at h⟩
theorem not_right (i : Nat) : ¬ RightS (zeros 64) i := fun h => h.1 (by rfl)
end Go.Proofs.Ytpmmpdkeahmdiaa
