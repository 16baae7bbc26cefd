/- The least that a state or its arcs add is 0; machines of dictionaries. -/
import Derived.Test.YtllmdfkiogmofaaGreatDoorGg
import Derived.Test.YtllmdfkiogmofaaGreatDoorFBuild
namespace Go.Proofs.YtllmdfkiogmofaaGreatDoor
open Nums Fm

namespace Fm
theorem state_level {D : List (List En)} {b : List St} (h : Inv D b) {i : Nat} {s : St} (hi : b[i]? = some s) : (s.final = true → 0 ≤ s.out) ∧ (∀ a ∈ s.arcs, 0 ≤ a.out) ∧ ((s.final = true ∧ s.out = 0) ∨ ∃ a ∈ s.arcs, a.out = 0) := by
  obtain ⟨e1, _, c⟩ := h.row i s hi
  obtain ⟨hne, hl⟩ := h.lv _ (List.mem_of_getElem? e1)
  have hall : ∀ e ∈ exp D s, 0 ≤ e.2 := fun e he => by rw [← hl]; exact least_all he
  have hmem : ∀ a ∈ s.arcs, ∀ x ∈ D[a.to]?.getD [], pre a.label (x.1, x.2 + a.out) ∈ exp D s := fun a ha x hx => by
    refine List.mem_append_right _ (List.mem_flatMap.2 ⟨_, List.mem_map.2 ⟨a, ha, rfl⟩, List.mem_map.2 ⟨(x.1, x.2 + a.out), ?_, rfl⟩⟩)
    exact List.mem_map.2 ⟨x, hx, rfl⟩
  have hout : ∀ a ∈ s.arcs, 0 ≤ a.out := fun a ha => by
    have hv := h.lv _ (List.getElem_mem (c.to a ha))
    obtain ⟨x, hx, h0⟩ := least_mem hv.1
    have := hall _ (hmem a ha x (by rw [List.getElem?_eq_getElem (c.to a ha)]; exact hx))
    simp only [pre] at this
    omega
  refine ⟨fun hf => hall ([], s.out) (List.mem_append_left _ (by simp [fins, hf])), hout, ?_⟩
  obtain ⟨e, he, h0⟩ := least_mem hne
  rw [hl] at h0
  rcases List.mem_append.1 he with he | he
  · unfold fins at he
    split at he
    · rename_i hf
      rw [List.mem_singleton.1 he] at h0
      exact .inl ⟨hf, h0⟩
    · cases he
  · obtain ⟨p, hp, h2⟩ := List.mem_flatMap.1 he
    obtain ⟨a, ha, rfl⟩ := List.mem_map.1 hp
    obtain ⟨y, hy, rfl⟩ := List.mem_map.1 h2
    obtain ⟨x, hx, rfl⟩ := List.mem_map.1 hy
    rw [List.getElem?_eq_getElem (c.to a ha), Option.getD_some] at hx
    have hv := h.lv _ (List.getElem_mem (c.to a ha))
    have h1 := least_all hx
    rw [hv.2] at h1
    have h2 := hout a ha
    simp only [pre] at h0
    exact .inr ⟨a, ha, by omega⟩
end Fm
theorem ents_ne {l : List Pr} (h : l ≠ []) : ents l ≠ [] := by simp [ents, h]
theorem dict_good {l : List Pr} (h : buildE l = 0) (hl : l ≠ []) : Fm.Good 25 (ents l) := by
  have hd := dict_ok h
  exact ⟨ents_ne hl, hd.rise, fun e he => by have := hd.en.ln e he; omega⟩
end Go.Proofs.YtllmdfkiogmofaaGreatDoor
