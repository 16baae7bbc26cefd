/- The least that a state or its arcs add is 0; machines of dictionaries. -/
import Derived.Test.YtjhjejjnkpbphaaDoorGg
import Derived.Test.YtjhjejjnkpbphaaDoorFBuild
namespace Go.Proofs.YtjhjejjnkpbphaaDoor
open Nums Fm

namespace Fm
def lowF (m : Int) : List Arc → Int
  | [] => m
  | a :: r => lowF (if a.out < m then a.out else m) r
def lowOf (s : St) : Int := lowF (if s.final then s.out else 1099511627776) s.arcs
theorem lowF_ge : ∀ (l : List Arc) (m : Int), 0 ≤ m → (∀ a ∈ l, 0 ≤ a.out) → 0 ≤ lowF m l
  | [], _, h, _ => h
  | a :: r, m, h, ha => by
    rw [lowF]
    refine lowF_ge r _ ?_ (fun x hx => ha x (by simp [hx]))
    have := ha a (by simp)
    split <;> omega
theorem lowF_le : ∀ (l : List Arc) (m : Int), lowF m l ≤ m ∧ ∀ a ∈ l, lowF m l ≤ a.out
  | [], _ => ⟨Int.le_refl _, fun a ha => by cases ha⟩
  | c :: r, m => by
    rw [lowF]
    obtain ⟨h1, h2⟩ := lowF_le r (if c.out < m then c.out else m)
    have h3 : (if c.out < m then c.out else m) ≤ m ∧ (if c.out < m then c.out else m) ≤ c.out := by split <;> omega
    refine ⟨by omega, fun a ha => ?_⟩
    rcases List.mem_cons.1 ha with rfl | ha
    · omega
    · exact h2 a ha
theorem state_level {D : List (List En)} {b : List St} (h : Inv D b) {i : Nat} {s : St} (hi : b[i]? = some s) : (s.final = true → 0 ≤ s.out) ∧ (∀ a ∈ s.arcs, 0 ≤ a.out) ∧ ((s.final = true ∧ s.out = 0) ∨ ∃ a ∈ s.arcs, a.out = 0) := by
  obtain ⟨e1, _, c⟩ := h.row i s hi
  obtain ⟨hne, hl⟩ := h.lv _ (List.mem_of_getElem? e1)
  have hall : ∀ e ∈ exp D s, 0 ≤ e.2 := fun e he => by rw [← hl]; exact least_all he
  have hmem : ∀ a ∈ s.arcs, ∀ x ∈ D[a.to]?.getD [], pre a.label (x.1, x.2 + a.out) ∈ exp D s := fun a ha x hx => by
    refine List.mem_append_right _ (List.mem_flatMap.2 ⟨_, List.mem_map.2 ⟨a, ha, rfl⟩, List.mem_map.2 ⟨(x.1, x.2 + a.out), ?_, rfl⟩⟩)
    exact List.mem_map.2 ⟨x, hx, rfl⟩
  have hout : ∀ a ∈ s.arcs, 0 ≤ a.out := fun a ha => by
    have hv := h.lv _ (List.getElem_mem (c.to a ha))
    obtain ⟨x, hx, h0⟩ := least_mem hv.1
    have := hall _ (hmem a ha x (by rw [List.getElem?_eq_getElem (c.to a ha)]; exact hx))
    simp only [pre] at this
    omega
  refine ⟨fun hf => hall ([], s.out) (List.mem_append_left _ (by simp [fins, hf])), hout, ?_⟩
  obtain ⟨e, he, h0⟩ := least_mem hne
  rw [hl] at h0
  rcases List.mem_append.1 he with he | he
  · unfold fins at he
    split at he
    · rename_i hf
      rw [List.mem_singleton.1 he] at h0
      exact .inl ⟨hf, h0⟩
    · cases he
  · obtain ⟨p, hp, h2⟩ := List.mem_flatMap.1 he
    obtain ⟨a, ha, rfl⟩ := List.mem_map.1 hp
    obtain ⟨y, hy, rfl⟩ := List.mem_map.1 h2
    obtain ⟨x, hx, rfl⟩ := List.mem_map.1 hy
    rw [List.getElem?_eq_getElem (c.to a ha), Option.getD_some] at hx
    have hv := h.lv _ (List.getElem_mem (c.to a ha))
    have h1 := least_all hx
    rw [hv.2] at h1
    have h2 := hout a ha
    simp only [pre] at h0
    exact .inr ⟨a, ha, by omega⟩
theorem state_low {D : List (List En)} {b : List St} (h : Inv D b) {i : Nat} {s : St} (hi : b[i]? = some s) : lowOf s = 0 := by
  obtain ⟨h1, h2, h3⟩ := state_level h hi
  have hge : 0 ≤ lowOf s := lowF_ge _ _ (by split; exact h1 (by assumption); omega) h2
  obtain ⟨h4, h5⟩ := lowF_le s.arcs (if s.final then s.out else 1099511627776)
  have hle : lowOf s ≤ 0 := by
    rcases h3 with ⟨hf, h0⟩ | ⟨a, ha, h0⟩
    · rw [if_pos hf] at h4
      unfold lowOf
      rw [if_pos hf]
      omega
    · have := h5 a ha
      unfold lowOf
      omega
  omega
end Fm
theorem ents_ne {l : List Pr} (h : l ≠ []) : ents l ≠ [] := by simp [ents, h]
theorem dict_good {l : List Pr} (h : buildE l = 0) (hl : l ≠ []) : Fm.Good 25 (ents l) := by
  have hd := dict_ok h
  exact ⟨ents_ne hl, hd.rise, fun e he => by have := hd.en.ln e he; omega⟩
/-- The machine of a dictionary. -/
theorem mach_inv {l : List Pr} (h : buildE l = 0) : ∃ D, Inv D (machOf l).2 := by
  by_cases hl : l = []
  · subst hl
    exact ⟨[], Inv.nil⟩
  · obtain ⟨D, M⟩ := stF_spec 25 [] [] (ents l) Inv.nil (dict_good h hl)
    rw [machOf, if_pos ⟨h, hl⟩]
    exact ⟨D, M.inv⟩
end Go.Proofs.YtjhjejjnkpbphaaDoor
