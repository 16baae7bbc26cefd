/- The areas with sectors, rising: the first region. -/
import Derived.Test.YtpmmpdkeahmdiaaCompact
import Derived.Test.YtpmmpdkeahmdiaaSectors
import Derived.Test.YtpmmpdkeahmdiaaSecAll
import Derived.Test.YtpmmpdkeahmdiaaItrFRise
import Derived.Test.YtpmmpdkeahmdiaaItrLRise
namespace Go.Proofs.Ytpmmpdkeahmdiaa
open Go.RowKit Go.Sort Go.Lib
set_option maxRecDepth 100000

/-- The areas with sectors, rising. -/
def areasS (S : List Sec) : List Int := Lib.compact (S.map (·.area))
def SA (p lb fb : Nat) (W : World) : Prop := W.cell? ⟨p, 6, none⟩ = some (.map (some lb)) ∧ W.cell? ⟨p, 7, none⟩ = some (.map (some fb))
theorem SA.facts {p lb fb : Nat} {W : World} (h : SA p lb fb W) : W.cell? ⟨p, 6, none⟩ = some (.map (some lb)) ∧ W.cell? ⟨p, 7, none⟩ = some (.map (some fb)) := h
theorem SA.below {p lb fb : Nat} {w W : World} (h : SA p lb fb w) (hp : p < w.heap.size) (hb : Below w.heap.size w W) : SA p lb fb W := ⟨(hb.cell (p := ⟨p, 6, none⟩) hp).trans h.1, (hb.cell (p := ⟨p, 7, none⟩) hp).trans h.2⟩
theorem area_of_find {S : List Sec} {a n : Int} (h : (findS a n S).isSome = true) : a ∈ S.map (·.area) := by
  obtain ⟨s, hs⟩ := Option.isSome_iff_exists.1 h
  exact List.mem_map.2 ⟨s, findS_mem hs, (findS_at hs).1⟩
theorem areas_iff {w : World} {sh : Sh} {S : List Sec} (h : Held w sh) (hr : Rep sh S) (a : Int) : a ∈ S.map (·.area) ↔ a ∈ keys sh.L ∨ a ∈ keys sh.F := by
  constructor
  · intro ha
    obtain ⟨s, hs, rfl⟩ := List.mem_map.1 ha
    have hf := findS_self hr.sorted hs
    rcases (find_in_maps h hr s.area s.n).1 (by rw [hf]; rfl) with h1 | h1
    · left
      rw [mem_keys]
      cases hm : mget s.area sh.L with
      | none => simp [inL, hm, keys] at h1
      | some x => rfl
    · right
      rw [mem_keys]
      cases hm : mget s.area sh.F with
      | none => simp [inF, hm, keys] at h1
      | some x => rfl
  · rintro (ha | ha)
    · obtain ⟨p, hp, rfl⟩ := List.mem_map.1 ha
      obtain ⟨h1, h2, h3⟩ := h.hli p hp
      obtain ⟨q, hq⟩ := List.exists_mem_of_ne_nil _ h3
      refine area_of_find (n := q.1) ((find_in_maps h hr p.1 q.1).2 (.inl ?_))
      rw [inL, mget_of_mem (k := p.1) (v := p.2) h.hl.nodup hp]
      exact List.mem_map.2 ⟨q, hq, rfl⟩
    · obtain ⟨p, hp, rfl⟩ := List.mem_map.1 ha
      obtain ⟨h1, h2, h3⟩ := h.hfi p hp
      obtain ⟨q, hq⟩ := List.exists_mem_of_ne_nil _ h3
      refine area_of_find (n := q.1) ((find_in_maps h hr p.1 q.1).2 (.inr ?_))
      rw [inF, mget_of_mem (k := p.1) (v := p.2) h.hf.nodup hp]
      exact List.mem_map.2 ⟨q, hq, rfl⟩
theorem len_areas {w : World} {sh : Sh} {S : List Sec} (h : Held w sh) (hr : Rep sh S) : sh.L.length ≤ S.length ∧ sh.F.length ≤ S.length := by
  have h1 := nodup_len_le (keys sh.L) (S.map (·.area)) h.hl.nodup fun a ha => (areas_iff h hr a).2 (.inl ha)
  have h2 := nodup_len_le (keys sh.F) (S.map (·.area)) h.hf.nodup fun a ha => (areas_iff h hr a).2 (.inr ha)
  simp [keys] at h1 h2
  exact ⟨h1, h2⟩
theorem mem_sorted (xs : List Int) (x : Int) : x ∈ SrtU.sorted xs ↔ x ∈ xs := (List.mergeSort_perm xs _).mem_iff
theorem sorted_le (xs : List Int) : (SrtU.sorted xs).Pairwise (· ≤ ·) := by
  have := List.pairwise_mergeSort (le := fun x y : Int => decide (x ≤ y)) (fun a b c h1 h2 => by simp only [decide_eq_true_eq] at *; omega) (fun a b => by simp only [Bool.or_eq_true, decide_eq_true_eq]; omega) xs
  exact this.imp fun h => by simpa using h
theorem up_of_pairwise {xs : List Int} (h : xs.Pairwise (· ≤ ·)) : ∀ i j, i < j → j < xs.toArray.size → xs.toArray[i]! ≤ xs.toArray[j]! := by
  intro i j hij hj
  have hj' : j < xs.length := by simpa using hj
  have := List.pairwise_iff_getElem.1 h i j (by omega) hj' hij
  simpa [hj', show i < xs.length by omega] using this
/-- What Areas hands back. -/
theorem areas_eq {w : World} {sh : Sh} {S : List Sec} (h : Held w sh) (hr : Rep sh S) :
    compactUpTo (SrtU.sorted (SrtU.sorted (keys sh.L) ++ SrtU.sorted (keys sh.F))).toArray (SrtU.sorted (SrtU.sorted (keys sh.L) ++ SrtU.sorted (keys sh.F))).toArray.size = areasS S := by
  obtain ⟨a1, a2⟩ := compact_up _ (up_of_pairwise (sorted_le (SrtU.sorted (keys sh.L) ++ SrtU.sorted (keys sh.F)))) _ (Nat.le_refl _)
  have hs : (S.map (·.area)).Pairwise (· ≤ ·) := by
    rw [List.pairwise_map]
    exact hr.sorted.imp fun h => by unfold Sec.before at h; omega
  obtain ⟨b1, b2⟩ := compact_up _ (up_of_pairwise hs) _ (Nat.le_refl _)
  have mem : ∀ (zs : List Int) (x : Int), (∃ j, j < zs.toArray.size ∧ x = zs.toArray[j]!) ↔ x ∈ zs := by
    intro zs x
    constructor
    · rintro ⟨j, hj, rfl⟩
      have hj' : j < zs.length := by simpa using hj
      simp [hj']
    · intro hx
      obtain ⟨j, hj, rfl⟩ := List.getElem_of_mem hx
      exact ⟨j, by simpa using hj, by simp [hj]⟩
  have e : areasS S = compactUpTo (S.map (·.area)).toArray (S.map (·.area)).toArray.size := by
    rw [areasS, Lib.compact]; simp
  rw [e]
  refine rising_eq a2 b2 fun x => ?_
  rw [a1, b1, mem, mem, mem_sorted, List.mem_append, mem_sorted, mem_sorted, areas_iff h hr]
end Go.Proofs.Ytpmmpdkeahmdiaa
