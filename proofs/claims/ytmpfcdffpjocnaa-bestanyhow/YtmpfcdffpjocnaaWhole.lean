/- Whole texts, written and read: plain lists; no program is named here. -/
import Derived.Test.YtmpfcdffpjocnaaCodes
namespace Go.Proofs.Ytmpfcdffpjocnaa.Nums

theorem pair_eta (p : Int × Nat) : p = (p.1, p.2) := by cases p; rfl
/-- What was read is written as the same text. -/
theorem rsF_write : ∀ (f : Nat) (l : List UInt8) (xs : List Int), rsF f l = some xs → xs.all isR = true ∧ xs.flatMap wr = l := by
  intro f
  induction f with
  | zero =>
    intro l xs h
    simp only [rsF] at h
    by_cases e : l = []
    · rw [if_pos e] at h; obtain rfl := Option.some.inj h; subst e; simp
    · rw [if_neg e] at h; cases h
  | succ f ih =>
    intro l xs h
    simp only [rsF] at h
    by_cases e : l = []
    · rw [if_pos e] at h; obtain rfl := Option.some.inj h; subst e; simp
    rw [if_neg e] at h
    by_cases z : (rd l).2 = 0
    · rw [if_pos z] at h; cases h
    rw [if_neg z] at h
    cases h2 : rsF f (l.drop (rd l).2) with
    | none => rw [h2] at h; cases h
    | some t =>
      rw [h2] at h
      obtain rfl := Option.some.inj h
      obtain ⟨h3, h4⟩ := ih _ _ h2
      obtain ⟨hr, _, hb⟩ := rd_back e (pair_eta (rd l)) z
      refine ⟨by simp only [List.all_cons, hr, h3, Bool.and_self], ?_⟩
      rw [List.flatMap_cons, h4]
      exact hb.symm
theorem rs_write {l : List UInt8} {xs : List Int} (h : rs l = some xs) : xs.all isR = true ∧ xs.flatMap wr = l := rsF_write _ _ _ h

theorem wr_ne (r : Int) : wr r ≠ [] := by
  intro e; have h := wr_len r; rw [e] at h; have := wrI_len r; simp at h; omega
/-- Behind a rune's writing a text is read on. -/
theorem rs_wr {r : Int} (hr : isR r = true) (t : List UInt8) : rs (wr r ++ t) = (rs t).map (fun xs => r :: xs) := by
  have h := rd_wr hr t
  have hn : wr r ++ t ≠ [] := by
    intro e; exact wr_ne r (List.append_eq_nil_iff.1 e).1
  have hl := wrI_len r
  rw [rs_cons hn (by rw [h]; show (wrI r).length ≠ 0; omega), h]
  show (rs ((wr r ++ t).drop (wrI r).length)).map _ = _
  rw [← wr_len r, List.drop_left]
/-- What was written is read as the same runes. -/
theorem rs_texts : ∀ (xs : List Int), xs.all isR = true → ∀ t, rs (xs.flatMap wr ++ t) = (rs t).map (fun ys => xs ++ ys)
  | [], _, t => by simp
  | x :: xs, h, t => by
    have h1 : isR x = true := by simp at h; exact h.1
    have h2 : xs.all isR = true := by simp at h; simpa using h.2
    rw [List.flatMap_cons, List.append_assoc, rs_wr h1, rs_texts xs h2 t]
    cases rs t <;> simp
theorem rs_text {xs : List Int} (h : xs.all isR = true) : rs (xs.flatMap wr) = some xs := by
  have := rs_texts xs h []
  rw [List.append_nil, rs_nil] at this
  simpa using this
theorem flat_bytes (xs : List Int) : (xs.flatMap wrI).map (fun n => UInt8.ofNat n.toNat) = xs.flatMap wr := by
  induction xs with
  | nil => rfl
  | cons x r ih => rw [List.flatMap_cons, List.flatMap_cons, List.map_append, ih]; rfl
end Go.Proofs.Ytmpfcdffpjocnaa.Nums
