/- Texts that were written apart, joined. -/
import Derived.Test.YtncnefpkfbngaaaGreatDoorJ6
/- What a machine says of runes from its root on: plain mathematics. -/
namespace Go.Proofs.YtncnefpkfbngaaaGreatDoor
open Nums Fm

namespace Fm
/-- The weight of a word among some. -/
def wt (xs : List Int) (S : List En) : Option Int := (S.find? fun e => e.1 == xs).map (·.2)
/-- What is left behind a rune. -/
def after (c : Int) : List En → List En
 | [] => []
 | e :: r => if e.1.head? = some c then tl e :: after c r else after c r
theorem wt_cons (xs : List Int) (e : En) (r : List En) : wt xs (e :: r) = if e.1 = xs then some e.2 else wt xs r := by
 unfold wt
 rw [List.find?_cons]
 by_cases h : e.1 = xs
 · rw [if_pos h, beq_iff_eq.2 h]; rfl
 · rw [if_neg h, beq_eq_false_iff_ne.2 h]
theorem wt_after (c : Int) (t : List Int) : ∀ S : List En, wt (c :: t) S = wt t (after c S)
 | [] => rfl
 | e :: r => by
  obtain ⟨x, n⟩ := e
  rw [wt_cons, after, wt_after c t r]
  cases x with
  | nil => simp
  | cons d y =>
   by_cases h : d = c
   · subst h
     have e1 : tl (d :: y, n) = (y, n) := rfl
     simp only [List.head?_cons, if_true, e1]
     rw [wt_cons]
     simp only [List.cons.injEq, true_and]
   · have h1 : ¬ (d :: y = c :: t) := fun e => h (List.cons.inj e).1
     have h2 : ¬ (some d = some c) := fun e => h (Option.some.inj e)
     simp only [List.head?_cons, h1, h2, if_false]
theorem after_append (c : Int) : ∀ (S T : List En), after c (S ++ T) = after c S ++ after c T
 | [], _ => rfl
 | e :: r, T => by
  rw [List.cons_append, after, after, after_append c r T]
  split <;> rfl
theorem after_pre (c d : Int) : ∀ G : List En, after c (G.map (pre d)) = if d = c then G else []
 | [] => by simp [after]
 | e :: r => by
  rw [List.map_cons, after, after_pre c d r]
  by_cases h : d = c
  · subst h; simp [pre, tl]
  · simp [pre, h]
theorem after_shift (n : Int) (c : Int) : ∀ S : List En, after c (shift n S) = shift n (after c S)
 | [] => rfl
 | e :: r => by
  rw [shift, List.map_cons, ← shift, after, after, after_shift n c r]
  by_cases h : e.1.head? = some c
  · rw [if_pos h, if_pos h]; rfl
  · rw [if_neg h, if_neg h]
theorem after_mem {c : Int} : ∀ {S : List En} {e : En}, e ∈ after c S → pre c e ∈ S
 | [], e, h => by cases h
 | x :: r, e, h => by
  rw [after] at h
  split at h
  · rename_i hx
    rcases List.mem_cons.1 h with rfl | h
    · have : pre c (tl x) = x := by
       obtain ⟨y, n⟩ := x
       cases y with
       | nil => cases hx
       | cons d t =>
        simp only [List.head?_cons, Option.some.injEq] at hx
        subst hx
        rfl
      rw [this]; simp
    · exact .tail _ (after_mem h)
  · exact .tail _ (after_mem h)
/-- No arc has the rune. -/
theorem after_none {D : List (List En)} {c : Int} : ∀ (l : List Arc), (∀ a ∈ l, a.label ≠ c) → after c (flat (outs D l)) = []
 | [], _ => rfl
 | a :: r, h => by
  have e : flat (outs D (a :: r)) = (shift a.out (D[a.to]?.getD [])).map (pre a.label) ++ flat (outs D r) := rfl
  rw [e, after_append, after_pre, if_neg (h a (by simp)), after_none r fun x hx => h x (by simp [hx])]
  rfl
theorem after_some {D : List (List En)} {c : Int} : ∀ (l : List Arc) (a : Arc), l.Pairwise (fun a b => a.label < b.label) → a ∈ l → a.label = c → after c (flat (outs D l)) = shift a.out (D[a.to]?.getD [])
 | [], _, _, h, _ => by cases h
 | x :: r, a, hp, h, hc => by
  obtain ⟨h1, h2⟩ := List.pairwise_cons.1 hp
  have e : flat (outs D (x :: r)) = (shift x.out (D[x.to]?.getD [])).map (pre x.label) ++ flat (outs D r) := rfl
  rw [e, after_append, after_pre]
  rcases List.mem_cons.1 h with rfl | h
  · rw [if_pos hc, after_none r fun y hy => by have := h1 y hy; omega, List.append_nil]
  · have := h1 a h
    rw [if_neg (by omega), after_some r a h2 h hc]
    rfl
theorem after_fins (c : Int) (s : St) : after c (fins s) = [] := by
 unfold fins
 split
 · simp [after]
 · rfl
theorem exp_after {D : List (List En)} {s : St} (c : Int) : after c (exp D s) = after c (flat (outs D s.arcs)) := by
 rw [exp, after_append, after_fins, List.nil_append]
/-- Where the walk stands: at a state, or nowhere. -/
def Stands (D : List (List En)) (b : List St) (S : List En) (xs : List Int) (i : Nat) (at' sum : Int) : Prop :=
 (at' = -1 ∧ wt xs S = none) ∨ ∃ (n : Nat) (R : List En), at' = n ∧ n < b.length ∧ D[n]? = some R ∧ wt xs S = wt (xs.drop i) (shift sum R) ∧ ∀ e ∈ shift sum R, 1 ≤ e.2 ∧ e.2 ≤ 1048576
theorem Stands.sum {D : List (List En)} {b : List St} (hI : Inv D b) {S : List En} {xs : List Int} {i n : Nat} {sum : Int} (h : Stands D b S xs i n sum) : 1 ≤ sum ∧ sum ≤ 1048576 := by
 rcases h with ⟨h, _⟩ | ⟨m, R, h1, h2, h3, h4, h5⟩
 · omega
 · obtain ⟨v1, v2⟩ := hI.lv R (List.mem_of_getElem? h3)
   obtain ⟨e, he, h0⟩ := least_mem v1
   have := h5 (e.1, e.2 + sum) (List.mem_map.2 ⟨e, he, rfl⟩)
   simp only at this
   omega
/-- One rune on. -/
theorem Stands.next {D : List (List En)} {b : List St} (hI : Inv D b) {S : List En} {xs : List Int} {i n : Nat} {sum c : Int} {s : St} (h : Stands D b S xs i n sum) (hs : b[n]? = some s) (hc : xs[i]? = some c) :
 ((∀ a ∈ s.arcs, a.label ≠ c) → ∀ sum', Stands D b S xs (i + 1) (-1) sum') ∧ ∀ a ∈ s.arcs, a.label = c → Stands D b S xs (i + 1) a.to (sum + a.out) ∧ a.to < b.length ∧ 1 ≤ sum + a.out ∧ sum + a.out ≤ 1048576 := by
 rcases h with ⟨h, _⟩ | ⟨m, R, h1, h2, h3, h4, h5⟩
 · omega
 · have hnm : m = n := by omega
   subst hnm
   obtain ⟨e1, e2, ct⟩ := hI.row m s hs
   rw [h3] at e1
   have hR : R = exp D s := Option.some.inj e1
   have hd : xs.drop i = c :: xs.drop (i + 1) := by
    obtain ⟨hi, rfl⟩ := List.getElem?_eq_some_iff.1 hc
    exact List.drop_eq_getElem_cons hi
   rw [hd, wt_after, after_shift, hR, exp_after] at h4
   refine ⟨fun hno sum' => .inl ⟨rfl, ?_⟩, fun a ha hac => ?_⟩
   · rw [h4, after_none _ hno]; rfl
   · have hlt : a.to < b.length := by have := ct.to a ha; have := hI.len; omega
     have haf := after_some (D := D) s.arcs a ct.lab ha hac
     have hst : Stands D b S xs (i + 1) a.to (sum + a.out) := by
      refine .inr ⟨a.to, D[a.to]?.getD [], rfl, hlt, ?_, ?_, fun e he => ?_⟩
      · rw [List.getElem?_eq_getElem (ct.to a ha)]; rfl
      · rw [h4, haf, shift_shift]
        congr 2
        omega
      · rw [Int.add_comm sum a.out, ← shift_shift, ← haf, ← exp_after, ← after_shift, ← hR] at he
        exact h5 (pre c e) (after_mem he)
     have hsum := hst.sum hI
     exact ⟨hst, hlt, hsum.1, hsum.2⟩
end Fm
/-- The root is the last state. -/
theorem root_last {f : Nat} {S : List En} (hG : Fm.Good (f + 1) S) : (stF (f + 1) [] S).2 + 1 = (stF (f + 1) [] S).1.length := by
 obtain ⟨hr1, hr2⟩ := rise_rest hG.2.1
 have hgg := good_groups hG
 have hfl := flat_grp _ (restOf S) (Nat.le_refl _) hr2
 obtain ⟨D1, M⟩ := arF_spec (base := least S) (stF_spec f) (grp (restOf S)) [] [] Inv.nil hgg
 rw [stF]
 generalize arF (stF f) (least S) [] (grp (restOf S)) = q at M
 obtain ⟨b1, arcs⟩ := q
 simp only at M ⊢
 have hexp : exp D1 ⟨finOf S, outOf S, arcs⟩ = level S := by
  rw [exp, level, fins_shift S arcs, M.outs, ← flat_shift, hfl]
 have hnot : (⟨finOf S, outOf S, arcs⟩ : St) ∉ b1 := fun hm => by
  obtain ⟨j, hj⟩ := List.mem_iff_getElem?.1 hm
  have h1 := (M.inv.row j _ hj).1
  rw [hexp] at h1
  -- the longest word of S is longer than any of a rest
  have key : ∀ (R : List En) (T : List En) (k : Nat), Sub T R → (∀ e ∈ T, e.1.length ≤ k) → ∀ e ∈ R, e.1.length ≤ k := by
   intro R T k hs
   induction hs with
   | here T =>
    intro h e he
    obtain ⟨x, hx, rfl⟩ := List.mem_map.1 he
    exact h x hx
   | @step T' R' p hp hsub ih =>
    intro h
    refine ih fun e he => ?_
    -- e of a group: its word is in T'
    have hmem : ∀ (l : List En) (m : Nat), l.length ≤ m → ∀ p ∈ grp l, ∀ e ∈ p.2, ∃ x ∈ l, e = tl x := by
     intro l m
     induction m generalizing l with
     | zero => intro hl p hp; have : l = [] := List.eq_nil_of_length_eq_zero (by omega); subst this; cases hp
     | succ m ihm =>
      intro hl p hp e he
      cases l with
      | nil => cases hp
      | cons y r =>
       rw [grp_cons] at hp
       rcases List.mem_cons.1 hp with rfl | hp
       · obtain ⟨x, hx, rfl⟩ := List.mem_map.1 he
         exact ⟨x, List.mem_of_mem_take hx, rfl⟩
       · obtain ⟨x, hx, h2⟩ := ihm ((y :: r).drop (lead (hd y) r + 1)) (by rw [List.length_drop]; simp at hl ⊢; omega) p hp e he
         exact ⟨x, List.mem_of_mem_drop hx, h2⟩
    obtain ⟨x, hx, rfl⟩ := hmem _ _ (Nat.le_refl _) p hp e he
    have hxT : x ∈ T' := by
     cases T' with
     | nil => exact hx
     | cons y r =>
      obtain ⟨a, n⟩ := y
      cases a with
      | nil => exact .tail _ hx
      | cons c t => exact hx
    have := h x hxT
    simp only [tl, List.length_tail]
    omega
  have hlong : ∃ e ∈ S, ∀ x ∈ S, x.1.length ≤ e.1.length := by
   have : ∀ T : List En, T ≠ [] → ∃ e ∈ T, ∀ x ∈ T, x.1.length ≤ e.1.length := by
    intro T
    induction T with
    | nil => intro h; exact absurd rfl h
    | cons y r ih =>
     intro _
     by_cases hr : r = []
     · subst hr; exact ⟨y, by simp, fun x hx => by rw [List.mem_singleton] at hx; subst hx; exact Nat.le_refl _⟩
     · obtain ⟨e, he, h⟩ := ih hr
       by_cases hl : e.1.length ≤ y.1.length
       · exact ⟨y, by simp, fun x hx => by
          rcases List.mem_cons.1 hx with rfl | hx
          · exact Nat.le_refl _
          · exact Nat.le_trans (h x hx) hl⟩
       · exact ⟨e, by simp [he], fun x hx => by
          rcases List.mem_cons.1 hx with rfl | hx
          · omega
          · exact h x hx⟩
   exact this S hG.1
  obtain ⟨e, he, hmax⟩ := hlong
  rcases M.sub _ (List.mem_of_getElem? h1) with h | ⟨p, hp, h⟩
  · cases h
  · obtain ⟨g0, hg0⟩ : ∃ g0, g0 ∈ p.2 := List.exists_mem_of_ne_nil _ (grp_ne _ _ (Nat.le_refl _) p hp)
    have hpos : 0 < e.1.length := by
     have h2 := grp_mem hr2 hp hg0
     have h3 : pre p.1 g0 ∈ S := by
      cases S with
      | nil => exact h2
      | cons y r =>
       obtain ⟨a, n⟩ := y
       cases a with
       | nil => exact .tail _ h2
       | cons c t => exact h2
     have := hmax _ h3
     simp only [pre, List.length_cons] at this
     omega
    have hk := key _ p.2 (e.1.length - 1) h (fun x hx => by
     have h2 := grp_mem hr2 hp hx
     have h3 : pre p.1 x ∈ S := by
      cases S with
      | nil => exact h2
      | cons y r =>
       obtain ⟨a, n⟩ := y
       cases a with
       | nil => exact .tail _ h2
       | cons c t => exact h2
     have := hmax _ h3
     simp only [pre, List.length_cons] at this
     omega) (e.1, e.2 + -least S) (List.mem_map.2 ⟨e, he, rfl⟩)
    simp only at hk
    omega
 rw [numSt, if_neg hnot]
 simp
end Go.Proofs.YtncnefpkfbngaaaGreatDoor

/- Machines that are read: plain data, and when they are right. No program is named here. -/
namespace Go.Proofs.YtncnefpkfbngaaaGreatDoor.Pk
open Go.Proofs.YtncnefpkfbngaaaGreatDoor.Nums

structure RArc where
 label : Int
 out : Int
 to : Int
deriving DecidableEq
structure RSt where
 final : Bool
 out : Int
 arcs : List RArc
deriving DecidableEq
/-- The least that a state or its arcs say. -/
def minF (m : Int) : List RArc → Int
 | [] => m
 | a :: r => minF (min m a.out) r
def leastS (s : RSt) : Int := minF (if s.final then s.out else 9223372036854775807) s.arcs
def wordR (r : Int) : Bool := isR r && vis r
/-- Arcs rise, and lead to lower numbers. -/
def ordB (n : Int) : Option Int → List RArc → Bool
 | _, [] => true
 | p, a :: r => !(p.any fun q => decide (a.label ≤ q)) && wordR a.label && decide (0 ≤ a.to ∧ a.to < n) && ordB n (some a.label) r
def formS (s : RSt) (i : Nat) : Bool := (s.final || decide (s.out = 0)) && decide (leastS s = 0) && ordB i none s.arcs
def formB : Nat → List RSt → Bool
 | _, [] => true
 | i, s :: r => formS s i && formB (i + 1) r
/-- What all ways on from a state come to. -/
structure Reach where
 arcs : Int
 words : Int
 weight : Int
deriving DecidableEq
def stepR (known : List Reach) (r : Reach) (a : RArc) : Reach :=
 ⟨max r.arcs ((known.getD a.to.toNat ⟨0, 0, 0⟩).arcs + 1), r.words + (known.getD a.to.toNat ⟨0, 0, 0⟩).words, max r.weight (min a.out 1048576 + (known.getD a.to.toNat ⟨0, 0, 0⟩).weight)⟩
def behR (s : RSt) (known : List Reach) : Reach := s.arcs.foldl (stepR known) (if s.final then ⟨0, 1, s.out⟩ else ⟨0, 0, 0⟩)
def okR (base : Int) (r : Reach) : Bool := decide (r.arcs ≤ 24 ∧ r.words ≤ 4096 ∧ r.weight ≤ 1048576 - base)
def bndB (base : Int) : List Reach → List RSt → Bool
 | _, [] => true
 | known, s :: r => okR base (behR s known) && bndB base (known ++ [behR s known]) r
/-- States get their numbers as one goes from one of them on; none: something is amiss. -/
def vArcs (visit : Nat → Nat → Option Nat) : List RArc → Nat → Option Nat
 | [], next => some next
 | a :: r, next => if (next : Int) ≤ a.to then (visit a.to.toNat next).bind (vArcs visit r) else vArcs visit r next
def vis8 (m : List RSt) : Nat → Nat → Nat → Option Nat
 | 0, _, _ => none
 | f + 1, n, next => (vArcs (vis8 m f) (m.getD n ⟨false, 0, []⟩).arcs next).bind fun k => if n = k then some (k + 1) else none
def numB (m : List RSt) : Bool := (vis8 m (m.length + 25) (m.length - 1) 0).isSome
def rightB (base : Int) (m : List RSt) : Bool :=
 if m = [] then decide (base = 0) else
  decide (1 ≤ base ∧ base ≤ 1048576) && !(m.getD (m.length - 1) ⟨false, 0, []⟩).final && formB 0 m && bndB base [] m && numB m && decide m.Nodup
end Go.Proofs.YtncnefpkfbngaaaGreatDoor.Pk
