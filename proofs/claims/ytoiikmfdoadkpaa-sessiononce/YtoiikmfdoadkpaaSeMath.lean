/- The reference's answers as plain data, and that they are the table's. -/
import Derived.Test.YtoiikmfdoadkpaaSeOpen
import Derived.Test.YtoiikmfdoadkpaaSeKeep
namespace Go.Proofs.Ytoiikmfdoadkpaa
open Go.RowKit Go.Lib
set_option maxRecDepth 100000
namespace Se
/-- The last one of a session. -/
def pickK (id : Int) (k x : Kp) : Kp := if x.1 = id then x else k
def latest (ks : List Kp) (id : Int) : Kp := ks.foldl (pickK id) (id, 0, 0, 0, 0)
theorem latest_step {ks : List Kp} {j : Nat} {x : Kp} (h : ks[j]? = some x) (id : Int) : latest (ks.take (j + 1)) id = pickK id (latest (ks.take j) id) x := by
  obtain ⟨hj, ex⟩ := List.getElem?_eq_some_iff.1 h
  unfold latest
  rw [List.take_succ_eq_append_getElem hj, ex, List.foldl_append]; rfl
theorem latest_append (ks : List Kp) (x : Kp) (id : Int) : latest (ks ++ [x]) id = pickK id (latest ks id) x := by
  unfold latest; rw [List.foldl_append]; rfl
theorem latest_id (ks : List Kp) (id : Int) : (latest ks id).1 = id := by
  have h : ∀ (ks : List Kp) (k : Kp), k.1 = id → (ks.foldl (pickK id) k).1 = id := by
    intro ks
    induction ks with
    | nil => intro k h; exact h
    | cons x r ih =>
      intro k h
      rw [List.foldl_cons]
      refine ih _ ?_
      unfold pickK
      split
      · assumption
      · exact h
  exact h ks _ rfl
theorem latest_none {ks : List Kp} {id : Int} (h : ∀ x ∈ ks, x.1 ≠ id) : latest ks id = (id, 0, 0, 0, 0) := by
  have h2 : ∀ (ks : List Kp) (k : Kp), (∀ x ∈ ks, x.1 ≠ id) → ks.foldl (pickK id) k = k := by
    intro ks
    induction ks with
    | nil => intro k _; rfl
    | cons x r ih =>
      intro k h
      rw [List.foldl_cons, show pickK id k x = k from if_neg (h x (by simp))]
      exact ih k (fun y hy => h y (by simp [hy]))
  exact h2 ks _ h
/-- What the reference's Open, Check, Keep tell; m is how many sessions there are. -/
def ropenM (m : Nat) : Nat := if m < 4096 then m + 1 else m
def ropenE (m : Nat) : Int × Int := if m < 4096 then ((m : Int) + 1, 0) else (0, 152)
def rhas (m : Nat) (id : Int) : Bool := decide (1 ≤ id ∧ id ≤ m)
def rchk (m : Nat) (ks : List Kp) (id seq : Int) : An × Bool × Int :=
  if rhas m id = true then
    (if seq = 0 ∨ seq < (latest ks id).2.1 then ((0, 0, 0), false, 151) else if seq = (latest ks id).2.1 then ((latest ks id).2.2, true, 0) else ((0, 0, 0), false, 0))
  else ((0, 0, 0), false, 150)
def rkeepB (m : Nat) (ks : List Kp) (id seq : Int) : Bool := rhas m id && decide ((latest ks id).2.1 < seq)
def rkeepK (m : Nat) (ks : List Kp) (id seq : Int) (a : An) : List Kp := if rkeepB m ks id seq = true then ks ++ [(id, seq, a)] else ks
/-- A table and a reference's table tell the same. -/
structure Like (l : List Rw) (m : Nat) (ks : List Kp) : Prop where
  len : m = l.length
  rows : ∀ i, i < l.length → el l i = (latest ks ((i : Int) + 1)).2
  old : ∀ x ∈ ks, 1 ≤ x.1 ∧ x.1 ≤ m
theorem like_nil : Like [] 0 [] := ⟨rfl, fun i h => absurd h (Nat.not_lt_zero i), fun _ h => absurd h List.not_mem_nil⟩
theorem Like.has {l : List Rw} {m : Nat} {ks : List Kp} (h : Like l m ks) (id : Int) : hasB l id = rhas m id := by unfold hasB rhas; rw [h.len]
theorem Like.row {l : List Rw} {m : Nat} {ks : List Kp} (h : Like l m ks) {id : Int} (hh : rhas m id = true) : el l (id - 1).toNat = (latest ks id).2 := by
  unfold rhas at hh
  rw [decide_eq_true_eq, h.len] at hh
  have := h.rows (id - 1).toNat (by omega)
  rw [this, show ((id - 1).toNat : Int) + 1 = id by omega]
theorem Like.chk {l : List Rw} {m : Nat} {ks : List Kp} (h : Like l m ks) (id seq : Int) : chk l id seq = rchk m ks id seq := by
  unfold Se.chk rchk
  rw [h.has]
  cases hh : rhas m id with
  | false => rfl
  | true => simp only [if_true]; rw [h.row hh]
theorem Like.keepB {l : List Rw} {m : Nat} {ks : List Kp} (h : Like l m ks) (id seq : Int) : keepB l id seq = rkeepB m ks id seq := by
  unfold Se.keepB rkeepB
  rw [h.has]
  cases hh : rhas m id with
  | false => rfl
  | true => rw [h.row hh]
theorem Like.openE {l : List Rw} {m : Nat} {ks : List Kp} (h : Like l m ks) : openE l = ropenE m := by unfold Se.openE ropenE; rw [h.len]
theorem el_append (l : List Rw) (x : Rw) (i : Nat) : el (l ++ [x]) i = if i < l.length then el l i else if i = l.length then x else (0, 0, 0, 0) := by
  unfold el
  rw [List.getD_eq_getElem?_getD, List.getD_eq_getElem?_getD]
  split
  · next h => rw [List.getElem?_append_left h]
  · next h =>
    split
    · next e => subst e; simp
    · next e => rw [List.getElem?_eq_none (by simp; omega)]; rfl
theorem Like.opened {l : List Rw} {m : Nat} {ks : List Kp} (h : Like l m ks) : Like (openL l) (ropenM m) ks := by
  unfold openL ropenM
  rw [h.len]
  split
  · refine ⟨by simp, fun i hi => ?_, fun x hx => ?_⟩
    · rw [el_append]
      split
      · next h2 => exact h.rows i h2
      · next h2 =>
        have e : i = l.length := by simp at hi; omega
        rw [if_pos e, latest_none (fun x hx => by have := (h.old x hx).2; have := h.len; omega)]
        rfl
    · have := h.old x hx
      have := h.len
      omega
  · exact ⟨rfl, h.rows, fun x hx => by have := h.old x hx; have := h.len; omega⟩
theorem el_set (l : List Rw) (j : Nat) (x : Rw) (i : Nat) (hj : j < l.length) : el (l.set j x) i = if i = j then x else el l i := by
  unfold el
  rw [List.getD_eq_getElem?_getD, List.getD_eq_getElem?_getD, List.getElem?_set]
  by_cases h : j = i
  · subst h; simp [hj]
  · rw [if_neg h, if_neg (fun e => h e.symm)]
theorem Like.kept {l : List Rw} {m : Nat} {ks : List Kp} (h : Like l m ks) (id seq : Int) (a : An) : Like (keepL l id seq a) m (rkeepK m ks id seq a) := by
  unfold keepL rkeepK
  rw [h.keepB]
  split
  · next hk =>
    unfold rkeepB at hk
    rw [Bool.and_eq_true] at hk
    have hh := hk.1
    unfold rhas at hh
    rw [decide_eq_true_eq, h.len] at hh
    refine ⟨by rw [List.length_set]; exact h.len, fun i hi => ?_, fun x hx => ?_⟩
    · rw [List.length_set] at hi
      rw [el_set l _ _ _ (by omega), latest_append]
      unfold pickK
      by_cases e : i = (id - 1).toNat
      · rw [if_pos e, if_pos (show id = (i : Int) + 1 by omega)]
      · rw [if_neg e, if_neg (show ¬ id = (i : Int) + 1 by omega)]
        exact h.rows i hi
    · rcases List.mem_append.1 hx with hx | hx
      · exact h.old x hx
      · rw [List.mem_singleton.1 hx, h.len]; exact hh
  · exact h
end Se
end Go.Proofs.Ytoiikmfdoadkpaa
