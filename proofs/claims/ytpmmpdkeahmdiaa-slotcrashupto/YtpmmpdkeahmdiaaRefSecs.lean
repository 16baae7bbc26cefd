/- The reference's sectors, as they follow from the disk's. -/
import Derived.Test.YtpmmpdkeahmdiaaSecsOk
import Derived.Test.YtpmmpdkeahmdiaaRefLast
namespace Go.Proofs.Ytpmmpdkeahmdiaa
open Go.RowKit
set_option maxRecDepth 100000

/-- A sector of the reference: its area, number, versions; does the first one last? -/
structure RS where
  area : Int
  n : Int
  vs : List (List Nat)
  sy : Bool
def toRS (s : Sec) : RS := ⟨s.area, s.n, s.last.toList ++ s.fresh, s.last.isSome⟩
/-- The reference's numbers of a disk. -/
def rdOf (d : DS) : RD := ⟨d.room - d.secs.length, d.steps, d.ahead, d.armed, d.dead⟩
theorem rdOf_new (room : Int) : rdOf (newD room) = rdNew room := by unfold rdOf newD rdNew; simp
theorem rdOf_arm (d : DS) (at_ : Int) : rdOf (armD d at_) = rdArm (rdOf d) at_ := by
  unfold armD rdArm rdOf
  cases h : d.dead <;> simp [h]
theorem rdDies_eq (d : DS) (h : d.dead = false) : rdDies (rdOf d) = decide (stepE d ≠ 0) := by
  unfold rdDies rdOf stepE
  rw [h]
  cases d.armed with
  | false => simp
  | true =>
    by_cases h0 : d.ahead = 0
    · simp [h0]
    · simp [h0]
theorem stepE_30 (d : DS) (h : stepE d ≠ 0) : stepE d = 30 := by
  unfold stepE at *
  split
  · rfl
  · rename_i h1
    rw [if_neg h1] at h
    split
    · rfl
    · rename_i h2; rw [if_neg h2] at h; exact absurd rfl h
theorem rdOf_step (d : DS) (h : d.dead = false) : rdOf (stepD d) = rdStep (rdOf d) := by
  have hd : ¬ d.dead = true := by rw [h]; simp
  unfold stepD rdStep rdDies rdOf
  rw [if_neg hd]
  cases ha : d.armed with
  | false => simp
  | true =>
    by_cases h0 : d.ahead = 0
    · simp [h0]
    · simp [h0]
def rsSame (x s : RS) : Bool := x.area == s.area && x.n == s.n
def rsBehind (x s : RS) : Bool := decide (s.area < x.area) || (x.area == s.area && decide (s.n < x.n))
/-- The sectors with s in its place; 'done': it is there already. -/
def putR (s : RS) : Bool → List RS → List RS
  | done, [] => if done then [] else [s]
  | done, x :: r => (if !done && (rsSame x s || rsBehind x s) then [s] else []) ++ ((if rsSame x s then [] else [x]) ++ putR s (done || (rsSame x s || rsBehind x s)) r)
theorem rsSame_iff (x s : RS) : rsSame x s = true ↔ x.area = s.area ∧ x.n = s.n := by simp [rsSame]
theorem rsBehind_iff (x s : RS) : rsBehind x s = true ↔ s.area < x.area ∨ (x.area = s.area ∧ s.n < x.n) := by simp [rsBehind]
theorem putR_done (s : RS) (T : List RS) (h : ∀ x ∈ T, ¬ (x.area = s.area ∧ x.n = s.n)) : putR s true T = T := by
  induction T with
  | nil => rfl
  | cons x r ih =>
    have h1 : rsSame x s = false := by rw [Bool.eq_false_iff, ne_eq, rsSame_iff]; exact h x (.head _)
    rw [putR, h1]
    simp only [Bool.not_true, Bool.false_and, Bool.true_or, Bool.false_eq_true, if_false, List.nil_append, List.singleton_append]
    rw [ih fun y hy => h y (.tail _ hy)]
theorem putR_wr {a n : Int} {v : List Nat} {S : List Sec} (hs : S.Pairwise Sec.before) : putR (toRS (wrS a n v (findS a n S))) false (S.map toRS) = (wr a n v S).map toRS := by
  have key : ∀ o : Option Sec, (∀ s, o = some s → s.area = a ∧ s.n = n) → (toRS (wrS a n v o)).area = a ∧ (toRS (wrS a n v o)).n = n := fun o ho => by
    cases o with
    | none => exact ⟨rfl, rfl⟩
    | some s => exact ho s rfl
  induction S with
  | nil => rfl
  | cons t r ih =>
    obtain ⟨h1, h2⟩ := List.pairwise_cons.1 hs
    obtain ⟨k1, k2⟩ := key (findS a n (t :: r)) (fun s h => findS_at h)
    have far : ∀ s0 : RS, s0.area = a → s0.n = n → (¬ t.before ⟨a, n, none, []⟩) → putR s0 true (r.map toRS) = r.map toRS := fun s0 e1 e2 hb => putR_done _ _ fun x hx => by
      obtain ⟨y, hy, rfl⟩ := List.mem_map.1 hx
      have := h1 y hy
      show ¬ (y.area = s0.area ∧ y.n = s0.n)
      rw [e1, e2]
      unfold Sec.before at this hb
      simp only at hb
      omega
    rw [List.map_cons, putR, wr]
    by_cases he : t.area = a ∧ t.n = n
    · have hsm : rsSame (toRS t) (toRS (wrS a n v (findS a n (t :: r)))) = true := by rw [rsSame_iff, k1, k2]; exact he
      rw [hsm, if_pos he]
      simp only [Bool.not_false, Bool.true_and, Bool.true_or, Bool.or_true, if_true, List.nil_append]
      rw [far _ k1 k2 (by unfold Sec.before; simp only; omega), findS, if_pos he]
      simp [wrS]
    · have hsm : rsSame (toRS t) (toRS (wrS a n v (findS a n (t :: r)))) = false := by rw [Bool.eq_false_iff, ne_eq, rsSame_iff, k1, k2]; exact he
      rw [hsm, if_neg he]
      by_cases hb : a < t.area ∨ (a = t.area ∧ n < t.n)
      · have hbh : rsBehind (toRS t) (toRS (wrS a n v (findS a n (t :: r)))) = true := by
          rw [rsBehind_iff, k1, k2]
          show a < t.area ∨ (t.area = a ∧ n < t.n)
          omega
        rw [hbh, if_pos hb]
        simp only [Bool.not_false, Bool.true_and, Bool.or_true, if_true, Bool.false_eq_true, if_false]
        rw [far _ k1 k2 (by unfold Sec.before; simp only; omega)]
        have hno : findS a n (t :: r) = none := findS_none_of fun y hy => by
          rcases List.mem_cons.1 hy with rfl | hy
          · exact he
          · have := h1 y hy
            unfold Sec.before at this
            omega
        rw [hno]
        simp [wrS]
      · have hbh : rsBehind (toRS t) (toRS (wrS a n v (findS a n (t :: r)))) = false := by
          rw [Bool.eq_false_iff, ne_eq, rsBehind_iff, k1, k2]
          show ¬ (a < t.area ∨ (t.area = a ∧ n < t.n))
          omega
        rw [hbh, if_neg hb]
        have hf : findS a n (t :: r) = findS a n r := by rw [findS, if_neg he]
        rw [hf]
        have := ih h2
        simp only [Bool.not_false, Bool.true_and, Bool.or_self, Bool.false_eq_true, if_false, List.nil_append, List.singleton_append, List.map_cons]
        rw [this]
/-- One step of the walk through the sectors. -/
theorem putR_step (s x : RS) (done : Bool) (acc : List RS) (r : List RS) : acc ++ putR s done (x :: r) = (acc ++ (if !done && (rsSame x s || rsBehind x s) then [s] else []) ++ (if rsSame x s then [] else [x])) ++ putR s (done || (rsSame x s || rsBehind x s)) r := by
  rw [putR]; simp only [List.append_assoc]
def syR (a : Int) (x : RS) : RS := if x.area = a then ⟨a, x.n, [x.vs.getLastD []], true⟩ else x
theorem syR_eq (a : Int) (s : Sec) (h : s.last ≠ none ∨ s.fresh ≠ []) : syR a (toRS s) = toRS (if s.area = a then syS s else s) := by
  unfold syR
  by_cases e : s.area = a
  · rw [if_pos e, if_pos (show (toRS s).area = a from e)]
    have hc : ∃ v, s.cur = some v ∧ (s.last.toList ++ s.fresh).getLastD [] = v := by
      unfold Sec.cur
      rw [List.getLastD_eq_getLast?, List.getLast?_append]
      cases hf : s.fresh.getLast? with
      | some v => exact ⟨v, rfl, rfl⟩
      | none =>
        have hn : s.fresh = [] := List.getLast?_eq_none_iff.1 hf
        cases hl : s.last with
        | none => exact absurd hl (h.resolve_right (fun x => x hn))
        | some v => exact ⟨v, rfl, rfl⟩
    obtain ⟨v, h1, h2⟩ := hc
    simp only [toRS, syS, h1, h2, e, Option.toList_some, Option.isSome_some, List.append_nil]
  · rw [if_neg e, if_neg (show ¬ (toRS s).area = a from e)]
theorem sy_map {a : Int} {S : List Sec} (h : ∀ s ∈ S, s.last ≠ none ∨ s.fresh ≠ []) : (S.map toRS).map (syR a) = (sy a S).map toRS := by
  rw [sy, List.map_map, List.map_map]
  exact List.map_congr_left fun s hs => syR_eq a s (h s hs)
theorem fr_map (a : Int) (S : List Sec) : (S.map toRS).filter (fun x => x.area ≠ a) = (fr a S).map toRS := by
  rw [fr, List.filter_map]; rfl
end Go.Proofs.Ytpmmpdkeahmdiaa
