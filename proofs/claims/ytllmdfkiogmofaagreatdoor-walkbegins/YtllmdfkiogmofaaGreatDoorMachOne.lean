/- A machine's dictionary is one. -/
import Derived.Test.YtllmdfkiogmofaaGreatDoorJ8
import Derived.Test.YtllmdfkiogmofaaGreatDoorJ7
import Derived.Test.YtllmdfkiogmofaaGreatDoorJ5
namespace Go.Proofs.YtllmdfkiogmofaaGreatDoor.Pk
open Go.Proofs.YtllmdfkiogmofaaGreatDoor.Nums Go.Proofs.YtllmdfkiogmofaaGreatDoor.Fm Go.Proofs.YtllmdfkiogmofaaGreatDoor

theorem ent_inj {x y : Pr} (hx : ∃ xs, rs x.1.data.toList = some xs) (hy : ∃ ys, rs y.1.data.toList = some ys) (e : entOf x = entOf y) : x = y := by
  obtain ⟨xs, hx⟩ := hx
  obtain ⟨ys, hy⟩ := hy
  unfold entOf at e
  rw [hx, hy] at e
  simp only [Option.getD_some, Prod.mk.injEq] at e
  have h1 := (rs_write hx).2
  have h2 := (rs_write hy).2
  rw [e.1, h2] at h1
  have h3 : x.1.data = y.1.data := Array.toList_inj.1 h1.symm
  exact Prod.ext (ByteArray.ext h3) e.2
theorem ents_inj : ∀ (l m : List Pr), Wd l → Wd m → ents l = ents m → l = m
  | [], [], _, _, _ => rfl
  | [], _ :: _, _, _, h => by simp [ents] at h
  | _ :: _, [], _, _, h => by simp [ents] at h
  | x :: l, y :: m, h1, h2, h => by
    simp only [ents, List.map_cons, List.cons.injEq] at h
    obtain ⟨xs, hx, _⟩ := h1 x (by simp)
    obtain ⟨ys, hy, _⟩ := h2 y (by simp)
    rw [ent_inj ⟨xs, hx⟩ ⟨ys, hy⟩ h.1, ents_inj l m (fun z hz => h1 z (by simp [hz])) (fun z hz => h2 z (by simp [hz])) h.2]
theorem mach_pos {l : List Pr} (h : buildE l = 0) (hl : l ≠ []) : (machOf l).2 ≠ [] := by
  have hg := dict_good h hl
  have hrl : (stF 25 [] (ents l)).2 + 1 = (stF 25 [] (ents l)).1.length := root_last (f := 24) hg
  rw [machOf, if_pos ⟨h, hl⟩]
  intro e
  simp only at e
  rw [e] at hrl
  simp at hrl
theorem mach_one {l m : List Pr} (h : buildE l = 0) (h' : buildE m = 0) (e : machOf l = machOf m) : l = m := by
  by_cases hl : l = []
  · by_cases hm : m = []
    · rw [hl, hm]
    · refine absurd ?_ (mach_pos h' hm)
      rw [← e, hl]
      simp [machOf]
  by_cases hm : m = []
  · refine absurd ?_ (mach_pos h hl)
    rw [e, hm]
    simp [machOf]
  have hg := dict_good h hl
  have hg' := dict_good h' hm
  have r1 : (stF 25 [] (ents l)).2 + 1 = (stF 25 [] (ents l)).1.length := root_last (f := 24) hg
  have r2 : (stF 25 [] (ents m)).2 + 1 = (stF 25 [] (ents m)).1.length := root_last (f := 24) hg'
  obtain ⟨D, M⟩ := stF_spec 25 [] [] (ents l) Inv.nil hg
  obtain ⟨D', M'⟩ := stF_spec 25 [] [] (ents m) Inv.nil hg'
  rw [machOf, if_pos ⟨h, hl⟩, machOf, if_pos ⟨h', hm⟩, Prod.mk.injEq] at e
  have i1 := M.inv
  have i2 := M'.inv
  have n1 := M.num
  have n2 := M'.num
  rw [e.2] at i1 r1
  have hD : D = D' := inv_one i1 i2
  rw [hD, show (stF 25 [] (ents l)).2 = (stF 25 [] (ents m)).2 by omega, n2] at n1
  have hlev := Option.some.inj n1
  have s1 : shift (least (ents l)) (level (ents l)) = ents l := by rw [shift_level, Int.sub_self, shift_zero]
  have s2 : shift (least (ents m)) (level (ents m)) = ents m := by rw [shift_level, Int.sub_self, shift_zero]
  refine ents_inj l m (dict_ok h).wd (dict_ok h').wd ?_
  rw [← s1, ← s2, e.1, hlev]
end Go.Proofs.YtllmdfkiogmofaaGreatDoor.Pk
