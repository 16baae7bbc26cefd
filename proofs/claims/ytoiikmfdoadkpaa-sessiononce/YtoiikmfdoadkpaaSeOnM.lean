/- What is kept just if it is new: plain mathematics. -/
import Derived.Test.YtoiikmfdoadkpaaSeMath
namespace Go.Proofs.Ytoiikmfdoadkpaa
open Go.RowKit Go.Lib
set_option maxRecDepth 100000
namespace Se
def kp (o : Oo) : Kp := (o.2.1, o.2.2.1, o.2.2.2)
def z0 : Oo := (0, 0, 0, 0, 0, 0)
def pickO (id : Int) (k x : Oo) : Oo := if x.2.1 = id then x else k
/-- The last one of a session. -/
def lastO (ds : List Oo) (id : Int) : Oo := ds.foldl (pickO id) z0
theorem lastO_step {ds : List Oo} {j : Nat} {x : Oo} (h : ds[j]? = some x) (id : Int) : lastO (ds.take (j + 1)) id = pickO id (lastO (ds.take j) id) x := by
  obtain ⟨hj, ex⟩ := List.getElem?_eq_some_iff.1 h
  unfold lastO
  rw [List.take_succ_eq_append_getElem hj, ex, List.foldl_append]; rfl
theorem last_latest (id : Int) : ∀ (ds : List Oo) (k : Oo) (y : Kp), ((k = z0 ∧ y = (id, 0, 0, 0, 0)) ∨ kp k = y) → ((ds.foldl (pickO id) k = z0 ∧ (ds.map kp).foldl (pickK id) y = (id, 0, 0, 0, 0)) ∨ kp (ds.foldl (pickO id) k) = (ds.map kp).foldl (pickK id) y)
  | [], _, _, h => h
  | x :: r, k, y, h => by
    rw [List.foldl_cons, List.map_cons, List.foldl_cons]
    refine last_latest id r _ _ ?_
    unfold pickO pickK
    by_cases e : x.2.1 = id
    · rw [if_pos e, if_pos (show (kp x).1 = id from e)]
      exact .inr rfl
    · rw [if_neg e, if_neg (show ¬ (kp x).1 = id from e)]
      exact h
theorem last_same (ds : List Oo) (id : Int) : (lastO ds id = z0 ∧ latest (ds.map kp) id = (id, 0, 0, 0, 0)) ∨ kp (lastO ds id) = latest (ds.map kp) id := last_latest id ds z0 _ (.inl ⟨rfl, rfl⟩)
/-- A table, and what was kept in it, in order. -/
structure Onc (l : List Rw) (ds : List Oo) : Prop where
  like : Like l l.length (ds.map kp)
  mono : ∀ x ∈ ds, x.2.2.1 ≤ (latest (ds.map kp) x.2.1).2.1
theorem onc_nil : Onc [] [] := ⟨like_nil, fun _ h => absurd h List.not_mem_nil⟩
theorem Onc.opened {l : List Rw} {ds : List Oo} (h : Onc l ds) : Onc (openL l) ds := by
  have h1 := h.like.opened
  have h2 := h1.len
  rw [h2] at h1
  exact ⟨h1, h.mono⟩
theorem Onc.kept {l : List Rw} {ds : List Oo} (h : Onc l ds) (o : Oo) (hk : keepB l o.2.1 o.2.2.1 = true) : Onc (keepL l o.2.1 o.2.2.1 o.2.2.2) (ds ++ [o]) := by
  have h1 := h.like.kept o.2.1 o.2.2.1 o.2.2.2
  have hr : rkeepB l.length (ds.map kp) o.2.1 o.2.2.1 = true := by rw [← h.like.keepB]; exact hk
  have e : rkeepK l.length (ds.map kp) o.2.1 o.2.2.1 o.2.2.2 = (ds ++ [o]).map kp := by
    unfold rkeepK
    rw [hr, List.map_append]; rfl
  rw [e] at h1
  have h2 := h1.len
  rw [h2] at h1
  refine ⟨h1, fun x hx => ?_⟩
  have hlt : (latest (ds.map kp) o.2.1).2.1 < o.2.2.1 := by
    unfold rkeepB at hr
    rw [Bool.and_eq_true, decide_eq_true_eq] at hr
    exact hr.2
  rw [List.map_append, List.map_cons, List.map_nil, latest_append]
  unfold pickK
  by_cases e2 : (kp o).1 = x.2.1
  · rw [if_pos e2]
    rcases List.mem_append.1 hx with hx | hx
    · have h3 := h.mono x hx
      rw [← e2] at h3
      exact Int.le_of_lt (Int.lt_of_le_of_lt h3 hlt)
    · rw [List.mem_singleton.1 hx]; exact Int.le_refl _
  · rw [if_neg e2]
    rcases List.mem_append.1 hx with hx | hx
    · exact h.mono x hx
    · exact absurd (by rw [List.mem_singleton.1 hx]; rfl) e2
theorem Onc.again {l : List Rw} {ds : List Oo} (h : Onc l ds) {id seq : Int} {a : An} (hc : chk l id seq = (a, true, 0)) : (lastO ds id).2 = (id, seq, a) := by
  unfold chk at hc
  split at hc
  · next hh =>
    rw [h.like.has] at hh
    rw [h.like.row hh] at hc
    split at hc
    · cases hc
    · next h0 =>
      split at hc
      · next h1 =>
        simp only [Prod.mk.injEq, and_true] at hc
        rcases last_same ds id with ⟨_, h2⟩ | h2
        · rw [h2] at h1 h0
          exact absurd (.inl h1) h0
        · have h3 := latest_id (ds.map kp) id
          show kp (lastO ds id) = _
          rw [h2]
          rw [show latest (ds.map kp) id = ((latest (ds.map kp) id).1, (latest (ds.map kp) id).2.1, (latest (ds.map kp) id).2.2) from rfl, h3, ← h1]
          rw [show a = (latest (ds.map kp) id).2.2 by rw [← hc]]
      · cases hc
  · cases hc
theorem Onc.new {l : List Rw} {ds : List Oo} (h : Onc l ds) {id seq : Int} {a : An} (hc : chk l id seq = (a, false, 0)) : keepB l id seq = true ∧ ∀ x ∈ ds, ¬ (x.2.1 = id ∧ x.2.2.1 = seq) := by
  unfold chk at hc
  split at hc
  · next hh =>
    split at hc
    · cases hc
    · next h0 =>
      split at hc
      · cases hc
      · next h1 =>
        have hlt : (el l (id - 1).toNat).1 < seq := by omega
        refine ⟨by unfold keepB; rw [hh, decide_eq_true hlt]; rfl, fun x hx ⟨e1, e2⟩ => ?_⟩
        have h3 := h.mono x hx
        rw [e1, e2] at h3
        rw [h.like.has] at hh
        rw [h.like.row hh] at hlt
        omega
  · cases hc
end Se
end Go.Proofs.Ytoiikmfdoadkpaa
