/- What was synced is found; whole numbers that came in. -/
import Derived.Test.YtpmmpdkeahmdiaaCrash
import Derived.Test.YtpmmpdkeahmdiaaBegun
import Derived.Test.YtpmmpdkeahmdiaaFrame
namespace Go.Proofs.Ytpmmpdkeahmdiaa
open Go.ChangeShapes Go.WideShapes Go.ChangeAt Go.RowKit Go.Deep
set_option maxRecDepth 100000

theorem crash_keep {a : Int} : ∀ (ps : List Int) (S : List Sec), (∀ s ∈ S, s.area = a → s.fresh = []) → (crashS ps S).filter (fun s => decide (s.area = a)) = S.filter fun s => decide (s.area = a)
  | _, [], _ => rfl
  | ps, s :: r, h => by
    rw [crashS]
    split
    · have ih := crash_keep ps r fun t ht => h t (.tail _ ht)
      by_cases e : s.area = a
      · rw [List.filter_cons_of_pos (by simpa using e), List.filter_cons_of_pos (by simpa using e), ih]
      · rw [List.filter_cons_of_neg (by simpa using e), List.filter_cons_of_neg (by simpa using e), ih]
    · rename_i hf
      have ih := crash_keep ps.tail r fun t ht => h t (.tail _ ht)
      have e : s.area ≠ a := fun e => hf (h s (.head _) e)
      rw [List.filter_append, ih, List.filter_cons_of_neg (by simpa using e)]
      have : (crashSec (ps.headD 0) s).filter (fun s => decide (s.area = a)) = [] := by
        rw [List.filter_eq_nil_iff]
        intro t ht
        rw [(crashSec_mem ht).1]
        simpa using e
      rw [this]; rfl
theorem find_filter (a n : Int) : ∀ S : List Sec, findS a n (S.filter fun s => decide (s.area = a)) = findS a n S
  | [] => rfl
  | s :: r => by
    by_cases e : s.area = a
    · rw [List.filter_cons_of_pos (by simpa using e), findS, findS, find_filter a n r]
    · rw [List.filter_cons_of_neg (by simpa using e), findS, if_neg (fun h => e h.1), find_filter a n r]
theorem synced_same {a : Int} {ps : List Int} {S : List Sec} (h : ∀ s ∈ S, s.area = a → s.fresh = []) : endS a (crashS ps S) = endS a S ∧ ∀ n, curOf (crashS ps S) a n = curOf S a n := by
  have hk := crash_keep ps S h
  refine ⟨by unfold endS; rw [hk], fun n => ?_⟩
  unfold curOf
  rw [← find_filter a n (crashS ps S), hk, find_filter]
theorem sy_fresh (a : Int) (S : List Sec) : ∀ s ∈ sy a S, s.area = a → s.fresh = [] := by
  intro s hs e
  obtain ⟨t, _, rfl⟩ := List.mem_map.1 hs
  split at e
  · rename_i h; rw [if_pos h]; rfl
  · rename_i h; exact absurd e h
theorem sy_ok {a : Int} {S : List Sec} (h : SecsOk S) : SecsOk (sy a S) := by
  intro s hs
  obtain ⟨t, ht, rfl⟩ := List.mem_map.1 hs
  split
  · exact h t ht
  · exact h t ht
theorem crash_ok {ps : List Int} {S : List Sec} (h : SecsOk S) : SecsOk (crashS ps S) := by
  intro t ht
  obtain ⟨s, hs, _, e2, _⟩ := crashS_mem ht
  rw [e2]; exact h s hs
theorem dies_dead (d : DS) (h : stepE d ≠ 0) : (stepD d).dead = true := by
  unfold stepE at h
  unfold stepD
  by_cases hd : d.dead = true
  · rw [if_pos hd]; exact hd
  · rw [if_neg hd] at h ⊢
    cases ha : d.armed with
    | false => rw [ha] at h; simp at h
    | true =>
      rw [ha] at h
      by_cases h0 : d.ahead = 0
      · simp [h0]
      · simp [h0] at h
theorem intCells1 : Try.prog.cellsOf 3 = 1 := by kernel_rfl
theorem ints_in {H : Type} {enc : TypeId × Value → H} {W : World} {base : Nat} {v : Value} {d : DataW H} {p : List MemPlace}
    (hok : Value.okWide Try.prog W .any base 23 v) (h : DataW.Trod enc Try.prog W 0 (fun _ => true) true 23 v d p) : ∃ xs : List Int, IntsAt W v xs ∧ xs.length ≤ big d := by
  obtain ⟨a0, len, cap, rfl⟩ := okWide_slice Try.underlying23 hok
  obtain ⟨fuel, hf⟩ := h
  rcases open_ints Try.underlying23 Try.underlying3 intCells1 hf with ⟨hcs, hx⟩ | ⟨a, len', cap', zs, hcs, _, hl, hm, hz, hx, hcell, hwz⟩
  · simp [Value.cells] at hcs
    obtain ⟨rfl, rfl, rfl⟩ := hcs
    exact ⟨[], ⟨none, 0, rfl, Nat.le_refl _, by simp, fun h => by simp at h, fun x hx => by cases hx⟩, by simp⟩
  · simp [Value.cells] at hcs
    obtain ⟨rfl, rfl, rfl⟩ := hcs
    simp only [Prod.mk.injEq] at hx
    obtain ⟨rfl, _⟩ := hx
    simp only [if_true] at hz
    have hlen : (zs.take len).length = len := by rw [List.length_take]; omega
    refine ⟨zs.take len, ⟨some a, cap, by rw [hlen], by omega, by unfold maxLen at hm; omega, fun h0 => ?_, fun x hx => ?_⟩, ?_⟩
    · rw [hlen] at h0
      obtain ⟨b, off, rfl, hc⟩ := ints_at hcell (by omega)
      refine ⟨b, off, rfl, lt_of_cell (hc 0 (by omega)), fun j x hj => ?_⟩
      rw [List.getElem?_take] at hj
      split at hj
      · have hjl := (List.getElem?_eq_some_iff.1 hj).1
        rw [hc j (by omega)]
        simp [List.getD_eq_getElem?_getD, hj]
      · cases hj
    · have := bounds_i64 (hwz x (List.mem_of_mem_take hx))
      omega
    · rw [hlen]
      simp only [big, lits, List.length_map, List.length_take]
      omega
end Go.Proofs.Ytpmmpdkeahmdiaa
