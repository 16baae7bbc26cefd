/- Sectors in their order: written, synced, freed. -/
import Derived.Test.YtpmmpdkeahmdiaaDisk
namespace Go.Proofs.Ytpmmpdkeahmdiaa
open Go.RowKit
set_option maxRecDepth 100000

theorem before_trans {s t u : Sec} (h : s.before t) (k : t.before u) : s.before u := by
  unfold Sec.before at *; omega
/-- The sectors with a version more at a, n. -/
def wr (a n : Int) (v : List Nat) : List Sec → List Sec
  | [] => [⟨a, n, none, [v]⟩]
  | s :: r => if s.area = a ∧ s.n = n then { s with fresh := s.fresh ++ [v] } :: r else if a < s.area ∨ (a = s.area ∧ n < s.n) then ⟨a, n, none, [v]⟩ :: s :: r else s :: wr a n v r
theorem findS_none_of {a n : Int} {S : List Sec} (h : ∀ s ∈ S, ¬ (s.area = a ∧ s.n = n)) : findS a n S = none := by
  induction S with
  | nil => rfl
  | cons s r ih => rw [findS, if_neg (h s (.head _))]; exact ih fun t ht => h t (.tail _ ht)
theorem findS_at {a n : Int} {S : List Sec} {s : Sec} (h : findS a n S = some s) : s.area = a ∧ s.n = n := by
  induction S with
  | nil => simp [findS] at h
  | cons t r ih =>
    rw [findS] at h
    split at h
    · rename_i ht; rw [← Option.some.inj h]; exact ht
    · exact ih h
theorem findS_self {S : List Sec} (hs : S.Pairwise Sec.before) {s : Sec} (h : s ∈ S) : findS s.area s.n S = some s := by
  induction S with
  | nil => cases h
  | cons t r ih =>
    obtain ⟨h1, h2⟩ := List.pairwise_cons.1 hs
    rcases List.mem_cons.1 h with rfl | h
    · rw [findS, if_pos ⟨rfl, rfl⟩]
    · have := h1 s h
      rw [findS, if_neg (fun e => by unfold Sec.before at this; omega)]
      exact ih h2 h
theorem wr_mem {a n : Int} {v : List Nat} {S : List Sec} {t : Sec} (h : t ∈ wr a n v S) : t ∈ S ∨ (t.area = a ∧ t.n = n ∧ ((t.last = none ∧ t.fresh = [v]) ∨ ∃ s ∈ S, t.last = s.last ∧ t.fresh = s.fresh ++ [v])) := by
  induction S with
  | nil => simp [wr] at h; subst h; exact .inr ⟨rfl, rfl, .inl ⟨rfl, rfl⟩⟩
  | cons s r ih =>
    rw [wr] at h
    split at h
    · rename_i he
      rcases List.mem_cons.1 h with rfl | h
      · exact .inr ⟨he.1, he.2, .inr ⟨s, .head _, rfl, rfl⟩⟩
      · exact .inl (.tail _ h)
    · split at h
      · rcases List.mem_cons.1 h with rfl | h
        · exact .inr ⟨rfl, rfl, .inl ⟨rfl, rfl⟩⟩
        · exact .inl h
      · rcases List.mem_cons.1 h with rfl | h
        · exact .inl (.head _)
        · rcases ih h with h | ⟨h1, h2, h3 | ⟨s', hs', h3⟩⟩
          · exact .inl (.tail _ h)
          · exact .inr ⟨h1, h2, .inl h3⟩
          · exact .inr ⟨h1, h2, .inr ⟨s', .tail _ hs', h3⟩⟩
theorem wr_sorted {a n : Int} {v : List Nat} {S : List Sec} (hs : S.Pairwise Sec.before) : (wr a n v S).Pairwise Sec.before := by
  induction S with
  | nil => simp [wr]
  | cons s r ih =>
    obtain ⟨h1, h2⟩ := List.pairwise_cons.1 hs
    rw [wr]
    split
    · exact List.pairwise_cons.2 ⟨fun t ht => h1 t ht, h2⟩
    · split
      · rename_i hb
        refine List.pairwise_cons.2 ⟨fun t ht => ?_, hs⟩
        have hsb : (⟨a, n, none, [v]⟩ : Sec).before s := hb
        rcases List.mem_cons.1 ht with rfl | ht
        · exact hsb
        · exact before_trans hsb (h1 t ht)
      · rename_i hne hnb
        refine List.pairwise_cons.2 ⟨fun t ht => ?_, ih h2⟩
        rcases wr_mem ht with ht | ⟨e1, e2, _⟩
        · exact h1 t ht
        · unfold Sec.before; omega
/-- The sector behind a write. -/
def wrS (a n : Int) (v : List Nat) (o : Option Sec) : Sec := match o with | some s => { s with fresh := s.fresh ++ [v] } | none => ⟨a, n, none, [v]⟩
theorem find_wr {a n : Int} {v : List Nat} {S : List Sec} (hs : S.Pairwise Sec.before) (a' n' : Int) : findS a' n' (wr a n v S) = if a' = a ∧ n' = n then some (wrS a n v (findS a n S)) else findS a' n' S := by
  induction S with
  | nil =>
    by_cases h : a' = a ∧ n' = n
    · rw [if_pos h]
      show (if a = a' ∧ n = n' then _ else _) = _
      rw [if_pos ⟨h.1.symm, h.2.symm⟩]; rfl
    · rw [if_neg h]
      show (if a = a' ∧ n = n' then _ else _) = _
      rw [if_neg (fun e => h ⟨e.1.symm, e.2.symm⟩)]
  | cons s r ih =>
    obtain ⟨h1, h2⟩ := List.pairwise_cons.1 hs
    rw [wr]
    by_cases he : s.area = a ∧ s.n = n
    · rw [if_pos he]
      by_cases h : a' = a ∧ n' = n
      · rw [if_pos h, findS, if_pos ⟨he.1.trans h.1.symm, he.2.trans h.2.symm⟩, findS, if_pos he]; rfl
      · rw [if_neg h, findS, if_neg (fun e => h ⟨e.1.symm.trans he.1, e.2.symm.trans he.2⟩), findS, if_neg (fun e => h ⟨e.1.symm.trans he.1, e.2.symm.trans he.2⟩)]
    · rw [if_neg he]
      by_cases hb : a < s.area ∨ (a = s.area ∧ n < s.n)
      · rw [if_pos hb]
        have hnone : findS a n (s :: r) = none := by
          refine findS_none_of fun t ht e => ?_
          rcases List.mem_cons.1 ht with rfl | ht
          · exact he e
          · have := h1 t ht
            unfold Sec.before at this
            omega
        rw [hnone]
        by_cases h : a' = a ∧ n' = n
        · rw [if_pos h, findS, if_pos ⟨h.1.symm, h.2.symm⟩]; rfl
        · rw [if_neg h, findS, if_neg (fun e => h ⟨e.1.symm, e.2.symm⟩)]
      · rw [if_neg hb]
        have e2 : findS a n (s :: r) = findS a n r := by rw [findS, if_neg he]
        rw [e2, findS, ih h2]
        by_cases h : a' = a ∧ n' = n
        · rw [if_pos h, if_pos h, if_neg (fun e => he ⟨e.1.trans h.1, e.2.trans h.2⟩)]
        · rw [if_neg h, if_neg h, findS]
theorem wr_len {a n : Int} {v : List Nat} {S : List Sec} (hs : S.Pairwise Sec.before) : (wr a n v S).length = if (findS a n S).isSome then S.length else S.length + 1 := by
  induction S with
  | nil => rfl
  | cons s r ih =>
    obtain ⟨h1, h2⟩ := List.pairwise_cons.1 hs
    rw [wr]
    by_cases he : s.area = a ∧ s.n = n
    · rw [if_pos he, findS, if_pos he]; rfl
    · rw [if_neg he, findS, if_neg he]
      by_cases hb : a < s.area ∨ (a = s.area ∧ n < s.n)
      · rw [if_pos hb, findS_none_of (fun t ht e => by have := h1 t ht; unfold Sec.before at this; omega)]; rfl
      · rw [if_neg hb, List.length_cons, ih h2]
        split <;> rfl
/-- The sectors of an area synced. -/
def syS (s : Sec) : Sec := { s with last := s.cur, fresh := [] }
def sy (a : Int) (S : List Sec) : List Sec := S.map fun s => if s.area = a then syS s else s
def fr (a : Int) (S : List Sec) : List Sec := S.filter fun s => s.area ≠ a
theorem find_sy (a a' n' : Int) (S : List Sec) : findS a' n' (sy a S) = (findS a' n' S).map fun s => if s.area = a then syS s else s := by
  induction S with
  | nil => rfl
  | cons s r ih =>
    have e : (if s.area = a then syS s else s).area = s.area ∧ (if s.area = a then syS s else s).n = s.n := by split <;> exact ⟨rfl, rfl⟩
    rw [sy, List.map_cons, findS, findS, e.1, e.2]
    split
    · rfl
    · exact ih
theorem find_fr (a a' n' : Int) (S : List Sec) : findS a' n' (fr a S) = if a' = a then none else findS a' n' S := by
  induction S with
  | nil => simp [fr, findS]
  | cons s r ih =>
    by_cases h : s.area = a
    · rw [fr, List.filter_cons_of_neg (by simpa using h)]
      have ih' : findS a' n' (r.filter fun s => s.area ≠ a) = _ := ih
      rw [ih']
      by_cases e : a' = a
      · rw [if_pos e, if_pos e]
      · rw [if_neg e, if_neg e, findS, if_neg (fun e2 => e (e2.1.symm.trans h))]
    · rw [fr, List.filter_cons_of_pos (by simpa using h), findS, findS]
      have ih' : findS a' n' (r.filter fun s => s.area ≠ a) = _ := ih
      rw [ih']
      by_cases e : s.area = a' ∧ s.n = n'
      · rw [if_pos e, if_pos e, if_neg (fun e2 => h (e.1.trans e2))]
      · rw [if_neg e, if_neg e]
theorem sy_sorted {a : Int} {S : List Sec} (hs : S.Pairwise Sec.before) : (sy a S).Pairwise Sec.before := by
  rw [sy, List.pairwise_map]
  refine hs.imp fun {s t} h => ?_
  unfold Sec.before at *
  split <;> split <;> exact h
theorem fr_sorted {a : Int} {S : List Sec} (hs : S.Pairwise Sec.before) : (fr a S).Pairwise Sec.before := hs.filter _
end Go.Proofs.Ytpmmpdkeahmdiaa
