/- A machine that was built, as it is read. -/
import Derived.Test.YtllmdfkiogmofaaGreatDoorJ8
import Derived.Test.YtllmdfkiogmofaaGreatDoorJ9
import Derived.Test.YtllmdfkiogmofaaGreatDoorJ10
namespace Go.Proofs.YtllmdfkiogmofaaGreatDoor
open Go.RowKit Nums Fm Pk
set_option maxRecDepth 100000

theorem built_at {B : Nat} {w : World} {vs : Value} {l : List Pr} {b : List St} (h : StRow B w vs b) (hC : buildE l = 0) (hb : (machOf l).2 = b) : StsAt w.heap.size w vs (b.map ofSt) := by
  obtain ⟨xss, h1, h2, h3⟩ := h
  have hf := built_facts hC
  have hlen := mach_few (l := l)
  rw [hb] at hf hlen
  refine ⟨⟨xss, h1.reads, by rw [h2, List.length_map], fun i s hi => ?_⟩, fun s hs => ?_, by rw [List.length_map]; omega⟩
  · rw [List.getElem?_map] at hi
    obtain ⟨t, ht, rfl⟩ := Option.map_eq_some_iff.1 hi
    obtain ⟨va, e1, e2⟩ := h3 i t ht
    have hcell : (t.arcs.map ofArc).map cellsRA = t.arcs.map cellsA := by rw [List.map_map]; rfl
    refine ⟨va, e1, ⟨by rw [show (ofSt t).arcs = t.arcs.map ofArc from rfl, hcell]; exact GOwn.reads e2, fun a ha => ?_, ?_⟩⟩
    · obtain ⟨x, hx, rfl⟩ := List.mem_map.1 ha
      obtain ⟨p1, p2, p3⟩ := (hf i t ht).2 x hx
      have hi' := (List.getElem?_eq_some_iff.1 ht).1
      simp only [OkRA, ofArc, Fits32, Fits64]
      omega
    · have := GOwn.reads e2
      obtain ⟨ad, cap, e, _⟩ := GOwn.shape e2
      have hsm : (t.arcs.map cellsA).length ≤ maxLen := by
        obtain ⟨_, hl, ⟨_, h0⟩ | ⟨g, cap, cur, _, _, _, h3, h4, _⟩⟩ := e2
        · omega
        · omega
      rw [List.length_map] at hsm
      unfold maxLen at hsm
      show (t.arcs.map ofArc).length ≤ _
      rw [List.length_map]
      omega
  · obtain ⟨t, ht, rfl⟩ := List.mem_map.1 hs
    obtain ⟨i, hi, rfl⟩ := List.getElem_of_mem ht
    have := (hf i _ (List.getElem?_eq_getElem hi)).1
    simp only [ofSt, Fits64]
    omega
theorem StRow.form {B : Nat} {w : World} {vs : Value} {b : List St} (h : StRow B w vs b) : ∃ ad n cap, vs = .slice ad n cap ∧ b.length = n := by
  obtain ⟨xss, h1, h2, _⟩ := h
  obtain ⟨ad, cap, h3, _⟩ := h1.shape
  exact ⟨ad, _, cap, h3, h2.symm⟩
end Go.Proofs.YtllmdfkiogmofaaGreatDoor
