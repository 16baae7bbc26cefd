/- Cut: what the seat's translation lacks is left out. -/
/- Rank. -/
import Derived.Test.YthfngcpcccbnpaaDoorJ15
namespace Go.Proofs.YthfngcpcccbnpaaDoor
open Go.RowKit Nums Fm Pk Pm
set_option maxRecDepth 100000

theorem LenW_any (w : World) (wb : Nat) (l : List Pr) (h : WkOn w wb l) :
    Calls Tryd.prog 26 #[.pointer (some ⟨wb, 0, none⟩)] w fun e w' => e = .returned (.int .i64 (l.length : Int)) ∧ Below w.heap.size w w' := by
  obtain ⟨D, hM, hI, hW⟩ := h.at'
  have h1 := Len_any _ w wb _ _ _ hW (by rw [List.length_map, List.length_map, hI.len])
  have e : (D.map List.length).getD (((machOf l).2.map ofSt).length - 1) 0 = l.length := by
    rcases mach_nil h.ok with hl | ⟨hl, n, hn⟩
    · subst hl
      have : D = [] := by
        have := hI.len
        simpa [machOf] using this
      rw [this]
      rfl
    · have hr := (hM hl).root
      rw [List.length_map, List.getD_eq_getElem?_getD, List.getElem?_map, hr]
      show (level (ents l)).length = _
      simp [level, shift, ents]
  rw [e] at h1
  exact h1
end Go.Proofs.YthfngcpcccbnpaaDoor
