/- Cut: what the seat's translation lacks is left out. -/
/- The builder in memory: its states, what its two maps know. -/
import Derived.Test.YtncnefpkfbngaaaGreatDoorKMap
import Derived.Test.YtncnefpkfbngaaaGreatDoorGf
namespace Go.Proofs.YtncnefpkfbngaaaGreatDoor
open Go.RowKit Nums Fm
set_option maxRecDepth 100000

def cellsA (a : Arc) : List Value := [.int .i32 a.label, .int .i64 a.out, .int .i64 a.to]
theorem cellsA_ok (a : Arc) : Cells 3 (cellsA a) := ⟨rfl, by simp [cellsA, Value.oneCell']⟩
/-- A row of arcs. -/
def AOwn (B : Nat) (w : World) (v : Value) (l : List Arc) : Prop := GOwn 110 3 B w v (l.map cellsA)
/-- What is known of lists of arcs: number n is the list D[n]. -/
structure LInv (m : List (LK × Nat)) (D : List (List Arc)) : Prop where
 zero : D[0]? = some []
 len : D.length = m.length + 1
 row : ∀ (i : Nat) (x : LK) (n : Nat), m[i]? = some (x, n) → n = i + 1 ∧ ∃ p, D[x.1]? = some p ∧ D[n]? = some (p ++ [x.2])
 nd : D.Nodup
theorem nodup_at {α : Type} {l : List α} (h : l.Nodup) {i j : Nat} {x : α} (hi : l[i]? = some x) (hj : l[j]? = some x) : i = j := by
 obtain ⟨h1, e1⟩ := List.getElem?_eq_some_iff.1 hi
 obtain ⟨h2, e2⟩ := List.getElem?_eq_some_iff.1 hj
 have hp := List.pairwise_iff_getElem.1 h
 rcases Nat.lt_trichotomy i j with h3 | h3 | h3
 · exact absurd (e1.trans e2.symm) (hp i j h1 h2 h3)
 · exact h3
 · exact absurd (e2.trans e1.symm) (hp j i h2 h1 h3)
theorem nodup_snoc {α : Type} {l : List α} {x : α} (h : l.Nodup) (hx : x ∉ l) : (l ++ [x]).Nodup := by
 rw [List.nodup_append]
 exact ⟨h, by simp, fun a ha b hb => by rw [List.mem_singleton.1 hb]; exact fun e => hx (e ▸ ha)⟩
theorem LInv.found {m : List (LK × Nat)} {D : List (List Arc)} (h : LInv m D) {n k : Nat} {a : Arc} {p : List Arc} (hm : ((n, a), k) ∈ m) (hn : D[n]? = some p) : D[k]? = some (p ++ [a]) := by
 obtain ⟨i, hi⟩ := List.mem_iff_getElem?.1 hm
 obtain ⟨_, p', h1, h2⟩ := h.row i _ _ hi
 rw [hn] at h1
 cases h1
 exact h2
theorem LInv.add {m : List (LK × Nat)} {D : List (List Arc)} (h : LInv m D) {n : Nat} {a : Arc} {p : List Arc} (hnew : ∀ k, ((n, a), k) ∉ m) (hn : D[n]? = some p) : LInv (m ++ [((n, a), m.length + 1)]) (D ++ [p ++ [a]]) ∧ (D ++ [p ++ [a]])[m.length + 1]? = some (p ++ [a]) := by
 have hlen := h.len
 have hlast : (D ++ [p ++ [a]])[m.length + 1]? = some (p ++ [a]) := by rw [List.getElem?_append_right (by omega), hlen]; simp
 have hpre : ∀ {i : Nat} {q : List Arc}, D[i]? = some q → (D ++ [p ++ [a]])[i]? = some q := fun {i q} hi => by
  rw [List.getElem?_append_left (List.getElem?_eq_some_iff.1 hi).1]; exact hi
 refine ⟨⟨hpre h.zero, by simp [hlen], fun i x k hi => ?_, nodup_snoc h.nd fun hmem => ?_⟩, hlast⟩
 · by_cases hil : i < m.length
   · rw [List.getElem?_append_left hil] at hi
     obtain ⟨h1, q, h2, h3⟩ := h.row i x k hi
     exact ⟨h1, q, hpre h2, hpre h3⟩
   · rw [List.getElem?_append_right (by omega)] at hi
     cases hi0 : i - m.length with
     | zero =>
      rw [hi0] at hi
      simp only [List.getElem?_cons_zero, Option.some.injEq, Prod.mk.injEq] at hi
      obtain ⟨rfl, rfl⟩ := hi
      exact ⟨by omega, p, hpre hn, hlast⟩
     | succ j => rw [hi0] at hi; simp at hi
 · obtain ⟨i, hi⟩ := List.mem_iff_getElem?.1 hmem
   have hil := (List.getElem?_eq_some_iff.1 hi).1
   cases i with
   | zero =>
    rw [h.zero] at hi
    simp at hi
   | succ j =>
    obtain ⟨⟨x, k⟩, hx⟩ : ∃ xk, m[j]? = some xk := ⟨m[j]'(by omega), List.getElem?_eq_getElem _⟩
    obtain ⟨rfl, q, h2, h3⟩ := h.row j x k hx
    rw [hi] at h3
    simp only [Option.some.injEq] at h3
    have h4 := List.append_inj' h3 rfl
    have e1 : x.2 = a := by have := h4.2; simp at this; exact this.symm
    rw [← h4.1] at h2
    have e2 : x.1 = n := nodup_at h.nd h2 hn
    have ex : x = (n, a) := Prod.ext e2 e1
    exact hnew (j + 1) (ex ▸ List.mem_of_getElem? hx)
/-- What is known of states. -/
structure NInv (m : List (SK × Nat)) (D : List (List Arc)) (b : List St) : Prop where
 len : m.length = b.length
 row : ∀ (i : Nat) (x : SK) (n : Nat), m[i]? = some (x, n) → n = i ∧ ∃ s, b[i]? = some s ∧ s.final = x.1 ∧ s.out = x.2.1 ∧ D[x.2.2]? = some s.arcs
 nd : b.Nodup
theorem NInv.more {m : List (SK × Nat)} {D D' : List (List Arc)} {b : List St} (h : NInv m D b) (hp : D <+: D') : NInv m D' b := by
 obtain ⟨t, rfl⟩ := hp
 refine ⟨h.len, fun i x n hi => ?_, h.nd⟩
 obtain ⟨h1, s, h2, h3, h4, h5⟩ := h.row i x n hi
 exact ⟨h1, s, h2, h3, h4, by rw [List.getElem?_append_left (List.getElem?_eq_some_iff.1 h5).1]; exact h5⟩
theorem NInv.found {m : List (SK × Nat)} {D : List (List Arc)} {b : List St} (h : NInv m D b) {s : St} {ln k : Nat} (hm : ((s.final, s.out, ln), k) ∈ m) (hl : D[ln]? = some s.arcs) : numSt b s = (b, k) ∧ k < b.length := by
 obtain ⟨i, hi⟩ := List.mem_iff_getElem?.1 hm
 obtain ⟨rfl, s', h2, h3, h4, h5⟩ := h.row i _ _ hi
 rw [hl] at h5
 have e : s' = s := by
  cases s; cases s'
  simp only [Option.some.injEq] at h3 h4 h5
  simp only [St.mk.injEq]
  exact ⟨h3, h4, h5.symm⟩
 subst e
 have hmem : s' ∈ b := List.mem_of_getElem? h2
 have hidx := List.idxOf_lt_length_of_mem hmem
 have : b.idxOf s' = k := nodup_at h.nd (by rw [List.getElem?_eq_getElem hidx, List.getElem_idxOf]) h2
 rw [numSt, if_pos hmem, this]
 exact ⟨rfl, (List.getElem?_eq_some_iff.1 h2).1⟩
theorem NInv.add {m : List (SK × Nat)} {D : List (List Arc)} {b : List St} (h : NInv m D b) (hD : D.Nodup) {s : St} {ln : Nat} (hnew : ∀ k, ((s.final, s.out, ln), k) ∉ m) (hl : D[ln]? = some s.arcs) : numSt b s = (b ++ [s], b.length) ∧ NInv (m ++ [((s.final, s.out, ln), b.length)]) D (b ++ [s]) := by
 have hmem : s ∉ b := fun hmem => by
  obtain ⟨i, hi⟩ := List.mem_iff_getElem?.1 hmem
  have hil := (List.getElem?_eq_some_iff.1 hi).1
  have hlen := h.len
  obtain ⟨⟨x, k⟩, hx⟩ : ∃ xk, m[i]? = some xk := ⟨m[i]'(by omega), List.getElem?_eq_getElem _⟩
  obtain ⟨_, s', h2, h3, h4, h5⟩ := h.row i x k hx
  rw [hi] at h2
  cases h2
  have e := nodup_at hD h5 hl
  have ex : x = (s.final, s.out, ln) := by rw [h3, h4, ← e]
  exact hnew k (ex ▸ List.mem_of_getElem? hx)
 refine ⟨by rw [numSt, if_neg hmem], by simp [h.len], fun i x n hi => ?_, nodup_snoc h.nd hmem⟩
 by_cases hil : i < m.length
 · rw [List.getElem?_append_left hil] at hi
   obtain ⟨h1, s', h2, h3⟩ := h.row i x n hi
   exact ⟨h1, s', by rw [List.getElem?_append_left (List.getElem?_eq_some_iff.1 h2).1]; exact h2, h3⟩
 · rw [List.getElem?_append_right (by omega)] at hi
   have hlen := h.len
   cases hi0 : i - m.length with
   | zero =>
    rw [hi0] at hi
    simp only [List.getElem?_cons_zero, Option.some.injEq, Prod.mk.injEq] at hi
    obtain ⟨rfl, rfl⟩ := hi
    refine ⟨by omega, s, ?_, rfl, rfl, hl⟩
    rw [List.getElem?_append_right (by omega), show i - b.length = 0 by omega]
    rfl
   | succ j => rw [hi0] at hi; simp at hi

/-- Only blocks of F have changed, of those that were there. -/
structure Upd (F : Nat → Prop) (w w' : World) : Prop where
 os : w'.os = w.os
 tape : w'.tape = w.tape
 output : w'.output = w.output
 size : w.heap.size ≤ w'.heap.size
 block : ∀ k, k < w.heap.size → ¬ F k → w'.heap[k]? = w.heap[k]?
theorem Upd.refl (F : Nat → Prop) (w : World) : Upd F w w := ⟨rfl, rfl, rfl, Nat.le_refl _, fun _ _ _ => rfl⟩
theorem Upd.trans {F G : Nat → Prop} {a b c : World} (h1 : Upd F a b) (h2 : Upd G b c) (hG : ∀ k, k < a.heap.size → G k → F k) : Upd F a c :=
 ⟨h2.os.trans h1.os, h2.tape.trans h1.tape, h2.output.trans h1.output, Nat.le_trans h1.size h2.size, fun k hk hF => (h2.block k (Nat.lt_of_lt_of_le hk h1.size) (fun g => hF (hG k hk g))).trans (h1.block k hk hF)⟩
theorem Upd.of_below {F : Nat → Prop} {w w' : World} (h : Below w.heap.size w w') : Upd F w w' := ⟨h.os, h.tape, h.output, h.size, fun k hk _ => h.block k hk⟩
theorem Upd.mono {F G : Nat → Prop} {w w' : World} (h : Upd F w w') (hG : ∀ k, F k → G k) : Upd G w w' := ⟨h.os, h.tape, h.output, h.size, fun k hk hF => h.block k hk (fun f => hF (hG k f))⟩
theorem Upd.below {F : Nat → Prop} {w w' : World} (h : Upd F w w') {E : Nat} (hE : E ≤ w.heap.size) (hF : ∀ k, F k → E ≤ k) : Below E w w' :=
 ⟨h.os, h.tape, h.output, h.size, fun k hk => h.block k (Nat.lt_of_lt_of_le hk hE) (fun f => by have := hF k f; omega)⟩
theorem Upd.alloc {F : Nat → Prop} {w w' : World} (h : Upd F w w') (o : Obj) : Upd F w (w'.alloc o) :=
 h.trans (G := F) (Upd.of_below ((Below.refl _ w').alloc (Nat.le_refl _) o)) (fun _ _ g => g)

section
variable {A : Nat → Prop} {E g g1 g2 : Nat} {w w' : World} {vs : Value} {b : List St} {m1 : List (SK × Nat)} {m2 : List (LK × Nat)} {D : List (List Arc)}
theorem AOwn.typed {B : Nat} {v : Value} {l : List Arc} (h : AOwn B w v l) (hs : ∀ (k : Nat) (cur : Array Value), w.heap[k]? = some (Obj.cells cur 110 (0, 0)) → w'.heap[k]? = w.heap[k]?) : AOwn B w' v l :=
 GOwn.same h fun g hg => by obtain ⟨_, cur, h1⟩ := GOwn.block h hg; exact hs g cur h1
end
end Go.Proofs.YtncnefpkfbngaaaGreatDoor
