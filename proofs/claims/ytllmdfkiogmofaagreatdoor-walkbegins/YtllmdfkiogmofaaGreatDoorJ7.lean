/- Texts that were written apart, joined. -/
import Derived.Test.YtllmdfkiogmofaaGreatDoorJ6
/- What a machine says of runes from its root on: plain mathematics. -/
namespace Go.Proofs.YtllmdfkiogmofaaGreatDoor
open Nums Fm

namespace Fm
/-- The weight of a word among some. -/
def wt (xs : List Int) (S : List En) : Option Int := (S.find? fun e => e.1 == xs).map (·.2)
/-- What is left behind a rune. -/
def after (c : Int) : List En → List En
  | [] => []
  | e :: r => if e.1.head? = some c then tl e :: after c r else after c r
theorem wt_nil (xs : List Int) : wt xs [] = none := rfl
theorem wt_cons (xs : List Int) (e : En) (r : List En) : wt xs (e :: r) = if e.1 = xs then some e.2 else wt xs r := by
  unfold wt
  rw [List.find?_cons]
  by_cases h : e.1 = xs
  · rw [if_pos h, beq_iff_eq.2 h]; rfl
  · rw [if_neg h, beq_eq_false_iff_ne.2 h]
theorem wt_after (c : Int) (t : List Int) : ∀ S : List En, wt (c :: t) S = wt t (after c S)
  | [] => rfl
  | e :: r => by
    obtain ⟨x, n⟩ := e
    rw [wt_cons, after, wt_after c t r]
    cases x with
    | nil => simp
    | cons d y =>
      by_cases h : d = c
      · subst h
        have e1 : tl (d :: y, n) = (y, n) := rfl
        simp only [List.head?_cons, if_true, e1]
        rw [wt_cons]
        simp only [List.cons.injEq, true_and]
      · have h1 : ¬ (d :: y = c :: t) := fun e => h (List.cons.inj e).1
        have h2 : ¬ (some d = some c) := fun e => h (Option.some.inj e)
        simp only [List.head?_cons, h1, h2, if_false]
theorem after_append (c : Int) : ∀ (S T : List En), after c (S ++ T) = after c S ++ after c T
  | [], _ => rfl
  | e :: r, T => by
    rw [List.cons_append, after, after, after_append c r T]
    split <;> rfl
theorem after_pre (c d : Int) : ∀ G : List En, after c (G.map (pre d)) = if d = c then G else []
  | [] => by simp [after]
  | e :: r => by
    rw [List.map_cons, after, after_pre c d r]
    by_cases h : d = c
    · subst h; simp [pre, tl]
    · simp [pre, h]
theorem after_shift (n : Int) (c : Int) : ∀ S : List En, after c (shift n S) = shift n (after c S)
  | [] => rfl
  | e :: r => by
    rw [shift, List.map_cons, ← shift, after, after, after_shift n c r]
    by_cases h : e.1.head? = some c
    · rw [if_pos h, if_pos h]; rfl
    · rw [if_neg h, if_neg h]
theorem after_mem {c : Int} : ∀ {S : List En} {e : En}, e ∈ after c S → pre c e ∈ S
  | [], e, h => by cases h
  | x :: r, e, h => by
    rw [after] at h
    split at h
    · rename_i hx
      rcases List.mem_cons.1 h with rfl | h
      · have : pre c (tl x) = x := by
          obtain ⟨y, n⟩ := x
          cases y with
          | nil => cases hx
          | cons d t =>
            simp only [List.head?_cons, Option.some.injEq] at hx
            subst hx
            rfl
        rw [this]; simp
      · exact .tail _ (after_mem h)
    · exact .tail _ (after_mem h)
/-- No arc has the rune. -/
theorem after_none {D : List (List En)} {c : Int} : ∀ (l : List Arc), (∀ a ∈ l, a.label ≠ c) → after c (flat (outs D l)) = []
  | [], _ => rfl
  | a :: r, h => by
    have e : flat (outs D (a :: r)) = (shift a.out (D[a.to]?.getD [])).map (pre a.label) ++ flat (outs D r) := rfl
    rw [e, after_append, after_pre, if_neg (h a (by simp)), after_none r fun x hx => h x (by simp [hx])]
    rfl
theorem after_some {D : List (List En)} {c : Int} : ∀ (l : List Arc) (a : Arc), l.Pairwise (fun a b => a.label < b.label) → a ∈ l → a.label = c → after c (flat (outs D l)) = shift a.out (D[a.to]?.getD [])
  | [], _, _, h, _ => by cases h
  | x :: r, a, hp, h, hc => by
    obtain ⟨h1, h2⟩ := List.pairwise_cons.1 hp
    have e : flat (outs D (x :: r)) = (shift x.out (D[x.to]?.getD [])).map (pre x.label) ++ flat (outs D r) := rfl
    rw [e, after_append, after_pre]
    rcases List.mem_cons.1 h with rfl | h
    · rw [if_pos hc, after_none r fun y hy => by have := h1 y hy; omega, List.append_nil]
    · have := h1 a h
      rw [if_neg (by omega), after_some r a h2 h hc]
      rfl
theorem after_fins (c : Int) (s : St) : after c (fins s) = [] := by
  unfold fins
  split
  · simp [after]
  · rfl
theorem exp_after {D : List (List En)} {s : St} (c : Int) : after c (exp D s) = after c (flat (outs D s.arcs)) := by
  rw [exp, after_append, after_fins, List.nil_append]
theorem wt_zero {D : List (List En)} {s : St} (n : Int) : wt [] (shift n (exp D s)) = if s.final then some (n + s.out) else none := by
  have hne : ∀ T : List En, (∀ e ∈ T, e.1 ≠ []) → wt [] T = none := by
    intro T
    induction T with
    | nil => intro _; rfl
    | cons e r ih =>
      intro h
      rw [wt_cons, if_neg (h e (by simp)), ih fun x hx => h x (by simp [hx])]
  have h2 : ∀ e ∈ shift n (flat (outs D s.arcs)), e.1 ≠ [] := fun e he => by
    obtain ⟨x, hx, rfl⟩ := List.mem_map.1 he
    exact flat_ne x hx
  have e : shift n (exp D s) = shift n (fins s) ++ shift n (flat (outs D s.arcs)) := by rw [exp, shift, List.map_append]; rfl
  rw [e, fins]
  split
  · simp only [shift, List.map_cons, List.map_nil, List.cons_append, List.nil_append]
    rw [wt_cons, if_pos rfl, Int.add_comm]
  · exact hne _ h2
/-- Where the walk stands: at a state, or nowhere. -/
def Stands (D : List (List En)) (b : List St) (S : List En) (xs : List Int) (i : Nat) (at' sum : Int) : Prop :=
  (at' = -1 ∧ wt xs S = none) ∨ ∃ (n : Nat) (R : List En), at' = n ∧ n < b.length ∧ D[n]? = some R ∧ wt xs S = wt (xs.drop i) (shift sum R) ∧ ∀ e ∈ shift sum R, 1 ≤ e.2 ∧ e.2 ≤ 1048576
theorem Stands.sum {D : List (List En)} {b : List St} (hI : Inv D b) {S : List En} {xs : List Int} {i n : Nat} {sum : Int} (h : Stands D b S xs i n sum) : 1 ≤ sum ∧ sum ≤ 1048576 := by
  rcases h with ⟨h, _⟩ | ⟨m, R, h1, h2, h3, h4, h5⟩
  · omega
  · obtain ⟨v1, v2⟩ := hI.lv R (List.mem_of_getElem? h3)
    obtain ⟨e, he, h0⟩ := least_mem v1
    have := h5 (e.1, e.2 + sum) (List.mem_map.2 ⟨e, he, rfl⟩)
    simp only at this
    omega
/-- One rune on. -/
theorem Stands.next {D : List (List En)} {b : List St} (hI : Inv D b) {S : List En} {xs : List Int} {i n : Nat} {sum c : Int} {s : St} (h : Stands D b S xs i n sum) (hs : b[n]? = some s) (hc : xs[i]? = some c) :
    ((∀ a ∈ s.arcs, a.label ≠ c) → ∀ sum', Stands D b S xs (i + 1) (-1) sum') ∧ ∀ a ∈ s.arcs, a.label = c → Stands D b S xs (i + 1) a.to (sum + a.out) ∧ a.to < b.length ∧ 1 ≤ sum + a.out ∧ sum + a.out ≤ 1048576 := by
  rcases h with ⟨h, _⟩ | ⟨m, R, h1, h2, h3, h4, h5⟩
  · omega
  · have hnm : m = n := by omega
    subst hnm
    obtain ⟨e1, e2, ct⟩ := hI.row m s hs
    rw [h3] at e1
    have hR : R = exp D s := Option.some.inj e1
    have hd : xs.drop i = c :: xs.drop (i + 1) := by
      obtain ⟨hi, rfl⟩ := List.getElem?_eq_some_iff.1 hc
      exact List.drop_eq_getElem_cons hi
    rw [hd, wt_after, after_shift, hR, exp_after] at h4
    refine ⟨fun hno sum' => .inl ⟨rfl, ?_⟩, fun a ha hac => ?_⟩
    · rw [h4, after_none _ hno]; rfl
    · have hlt : a.to < b.length := by have := ct.to a ha; have := hI.len; omega
      have haf := after_some (D := D) s.arcs a ct.lab ha hac
      have hst : Stands D b S xs (i + 1) a.to (sum + a.out) := by
        refine .inr ⟨a.to, D[a.to]?.getD [], rfl, hlt, ?_, ?_, fun e he => ?_⟩
        · rw [List.getElem?_eq_getElem (ct.to a ha)]; rfl
        · rw [h4, haf, shift_shift]
          congr 2
          omega
        · rw [Int.add_comm sum a.out, ← shift_shift, ← haf, ← exp_after, ← after_shift, ← hR] at he
          exact h5 (pre c e) (after_mem he)
      have hsum := hst.sum hI
      exact ⟨hst, hlt, hsum.1, hsum.2⟩
end Fm
/-- The root is the last state. -/
theorem root_last {f : Nat} {S : List En} (hG : Fm.Good (f + 1) S) : (stF (f + 1) [] S).2 + 1 = (stF (f + 1) [] S).1.length := by
  obtain ⟨hr1, hr2⟩ := rise_rest hG.2.1
  have hgg := good_groups hG
  have hfl := flat_grp _ (restOf S) (Nat.le_refl _) hr2
  obtain ⟨D1, M⟩ := arF_spec (base := least S) (stF_spec f) (grp (restOf S)) [] [] Inv.nil hgg
  rw [stF]
  generalize arF (stF f) (least S) [] (grp (restOf S)) = q at M
  obtain ⟨b1, arcs⟩ := q
  simp only at M ⊢
  have hexp : exp D1 ⟨finOf S, outOf S, arcs⟩ = level S := by
    rw [exp, level, fins_shift S arcs, M.outs, ← flat_shift, hfl]
  have hnot : (⟨finOf S, outOf S, arcs⟩ : St) ∉ b1 := fun hm => by
    obtain ⟨j, hj⟩ := List.mem_iff_getElem?.1 hm
    have h1 := (M.inv.row j _ hj).1
    rw [hexp] at h1
    -- the longest word of S is longer than any of a rest
    have key : ∀ (R : List En) (T : List En) (k : Nat), Sub T R → (∀ e ∈ T, e.1.length ≤ k) → ∀ e ∈ R, e.1.length ≤ k := by
      intro R T k hs
      induction hs with
      | here T =>
        intro h e he
        obtain ⟨x, hx, rfl⟩ := List.mem_map.1 he
        exact h x hx
      | @step T' R' p hp hsub ih =>
        intro h
        refine ih fun e he => ?_
        -- e of a group: its word is in T'
        have hmem : ∀ (l : List En) (m : Nat), l.length ≤ m → ∀ p ∈ grp l, ∀ e ∈ p.2, ∃ x ∈ l, e = tl x := by
          intro l m
          induction m generalizing l with
          | zero => intro hl p hp; have : l = [] := List.eq_nil_of_length_eq_zero (by omega); subst this; cases hp
          | succ m ihm =>
            intro hl p hp e he
            cases l with
            | nil => cases hp
            | cons y r =>
              rw [grp_cons] at hp
              rcases List.mem_cons.1 hp with rfl | hp
              · obtain ⟨x, hx, rfl⟩ := List.mem_map.1 he
                exact ⟨x, List.mem_of_mem_take hx, rfl⟩
              · obtain ⟨x, hx, h2⟩ := ihm ((y :: r).drop (lead (hd y) r + 1)) (by rw [List.length_drop]; simp at hl ⊢; omega) p hp e he
                exact ⟨x, List.mem_of_mem_drop hx, h2⟩
        obtain ⟨x, hx, rfl⟩ := hmem _ _ (Nat.le_refl _) p hp e he
        have hxT : x ∈ T' := by
          cases T' with
          | nil => exact hx
          | cons y r =>
            obtain ⟨a, n⟩ := y
            cases a with
            | nil => exact .tail _ hx
            | cons c t => exact hx
        have := h x hxT
        simp only [tl, List.length_tail]
        omega
    have hlong : ∃ e ∈ S, ∀ x ∈ S, x.1.length ≤ e.1.length := by
      have : ∀ T : List En, T ≠ [] → ∃ e ∈ T, ∀ x ∈ T, x.1.length ≤ e.1.length := by
        intro T
        induction T with
        | nil => intro h; exact absurd rfl h
        | cons y r ih =>
          intro _
          by_cases hr : r = []
          · subst hr; exact ⟨y, by simp, fun x hx => by rw [List.mem_singleton] at hx; subst hx; exact Nat.le_refl _⟩
          · obtain ⟨e, he, h⟩ := ih hr
            by_cases hl : e.1.length ≤ y.1.length
            · exact ⟨y, by simp, fun x hx => by
                rcases List.mem_cons.1 hx with rfl | hx
                · exact Nat.le_refl _
                · exact Nat.le_trans (h x hx) hl⟩
            · exact ⟨e, by simp [he], fun x hx => by
                rcases List.mem_cons.1 hx with rfl | hx
                · omega
                · exact h x hx⟩
      exact this S hG.1
    obtain ⟨e, he, hmax⟩ := hlong
    rcases M.sub _ (List.mem_of_getElem? h1) with h | ⟨p, hp, h⟩
    · cases h
    · obtain ⟨g0, hg0⟩ : ∃ g0, g0 ∈ p.2 := List.exists_mem_of_ne_nil _ (grp_ne _ _ (Nat.le_refl _) p hp)
      have hpos : 0 < e.1.length := by
        have h2 := grp_mem hr2 hp hg0
        have h3 : pre p.1 g0 ∈ S := by
          cases S with
          | nil => exact h2
          | cons y r =>
            obtain ⟨a, n⟩ := y
            cases a with
            | nil => exact .tail _ h2
            | cons c t => exact h2
        have := hmax _ h3
        simp only [pre, List.length_cons] at this
        omega
      have hk := key _ p.2 (e.1.length - 1) h (fun x hx => by
        have h2 := grp_mem hr2 hp hx
        have h3 : pre p.1 x ∈ S := by
          cases S with
          | nil => exact h2
          | cons y r =>
            obtain ⟨a, n⟩ := y
            cases a with
            | nil => exact .tail _ h2
            | cons c t => exact h2
        have := hmax _ h3
        simp only [pre, List.length_cons] at this
        omega) (e.1, e.2 + -least S) (List.mem_map.2 ⟨e, he, rfl⟩)
      simp only at hk
      omega
  rw [numSt, if_neg hnot]
  simp
/-- A dictionary's machine, from its root. -/
theorem mach_root {l : List Pr} (h : buildE l = 0) : ∃ D, Inv D (machOf l).2 ∧ ∀ xs, Stands D (machOf l).2 (ents l) xs 0 ((machOf l).2.length - 1) (machOf l).1 := by
  by_cases hl : l = []
  · subst hl
    exact ⟨[], Inv.nil, fun xs => .inl ⟨rfl, rfl⟩⟩
  · have hg := dict_good h hl
    obtain ⟨D, M⟩ := stF_spec 25 [] [] (ents l) Inv.nil hg
    have hrl : (stF 25 [] (ents l)).2 + 1 = (stF 25 [] (ents l)).1.length := root_last (f := 24) hg
    rw [machOf, if_pos ⟨h, hl⟩]
    refine ⟨D, M.inv, fun xs => .inr ⟨(stF 25 [] (ents l)).2, level (ents l), ?_, (show (stF 25 [] (ents l)).2 < (stF 25 [] (ents l)).1.length by omega), M.num, ?_, ?_⟩⟩
    · simp only; omega
    · have : shift (least (ents l)) (level (ents l)) = ents l := by rw [shift_level, Int.sub_self, shift_zero]
      rw [this]; rfl
    · have : shift (least (ents l)) (level (ents l)) = ents l := by rw [shift_level, Int.sub_self, shift_zero]
      simp only
      rw [this]
      exact (dict_ok h).en.wt
end Go.Proofs.YtllmdfkiogmofaaGreatDoor

/- Machines that are read: plain data, and when they are right. No program is named here. -/
namespace Go.Proofs.YtllmdfkiogmofaaGreatDoor.Pk
open Go.Proofs.YtllmdfkiogmofaaGreatDoor.Nums

structure RArc where
  label : Int
  out : Int
  to : Int
deriving DecidableEq
structure RSt where
  final : Bool
  out : Int
  arcs : List RArc
deriving DecidableEq
/-- The least that a state or its arcs say. -/
def minF (m : Int) : List RArc → Int
  | [] => m
  | a :: r => minF (min m a.out) r
def leastS (s : RSt) : Int := minF (if s.final then s.out else 9223372036854775807) s.arcs
def wordR (r : Int) : Bool := isR r && vis r
/-- Arcs rise, and lead to lower numbers. -/
def ordB (n : Int) : Option Int → List RArc → Bool
  | _, [] => true
  | p, a :: r => !(p.any fun q => decide (a.label ≤ q)) && wordR a.label && decide (0 ≤ a.to ∧ a.to < n) && ordB n (some a.label) r
def formS (s : RSt) (i : Nat) : Bool := (s.final || decide (s.out = 0)) && decide (leastS s = 0) && ordB i none s.arcs
def formB : Nat → List RSt → Bool
  | _, [] => true
  | i, s :: r => formS s i && formB (i + 1) r
/-- What all ways on from a state come to. -/
structure Reach where
  arcs : Int
  words : Int
  weight : Int
deriving DecidableEq
def stepR (known : List Reach) (r : Reach) (a : RArc) : Reach :=
  ⟨max r.arcs ((known.getD a.to.toNat ⟨0, 0, 0⟩).arcs + 1), r.words + (known.getD a.to.toNat ⟨0, 0, 0⟩).words, max r.weight (min a.out 1048576 + (known.getD a.to.toNat ⟨0, 0, 0⟩).weight)⟩
def behR (s : RSt) (known : List Reach) : Reach := s.arcs.foldl (stepR known) (if s.final then ⟨0, 1, s.out⟩ else ⟨0, 0, 0⟩)
def okR (base : Int) (r : Reach) : Bool := decide (r.arcs ≤ 24 ∧ r.words ≤ 4096 ∧ r.weight ≤ 1048576 - base)
def bndB (base : Int) : List Reach → List RSt → Bool
  | _, [] => true
  | known, s :: r => okR base (behR s known) && bndB base (known ++ [behR s known]) r
/-- States get their numbers as one goes from one of them on; none: something is amiss. -/
def vArcs (visit : Nat → Nat → Option Nat) : List RArc → Nat → Option Nat
  | [], next => some next
  | a :: r, next => if (next : Int) ≤ a.to then (visit a.to.toNat next).bind (vArcs visit r) else vArcs visit r next
def vis8 (m : List RSt) : Nat → Nat → Nat → Option Nat
  | 0, _, _ => none
  | f + 1, n, next => (vArcs (vis8 m f) (m.getD n ⟨false, 0, []⟩).arcs next).bind fun k => if n = k then some (k + 1) else none
def numB (m : List RSt) : Bool := (vis8 m (m.length + 25) (m.length - 1) 0).isSome
def rightB (base : Int) (m : List RSt) : Bool :=
  if m = [] then decide (base = 0) else
    decide (1 ≤ base ∧ base ≤ 1048576) && !(m.getD (m.length - 1) ⟨false, 0, []⟩).final && formB 0 m && bndB base [] m && numB m && decide m.Nodup
end Go.Proofs.YtllmdfkiogmofaaGreatDoor.Pk

/- Rests behind beginnings: what Rises goes through. Plain mathematics. -/
namespace Go.Proofs.YtllmdfkiogmofaaGreatDoor.Fm
open Go.Proofs.YtllmdfkiogmofaaGreatDoor.Nums

def behind : List Int → List En → List En
  | [], S => S
  | c :: t, S => behind t (after c S)
theorem behind_snoc : ∀ (p : List Int) (c : Int) (S : List En), behind (p ++ [c]) S = after c (behind p S)
  | [], _, _ => rfl
  | d :: t, c, S => behind_snoc t c (after d S)
theorem behind_step {xs : List Int} {k : Nat} {c : Int} (h : xs[k]? = some c) (S : List En) : behind (xs.take (k + 1)) S = after c (behind (xs.take k) S) := by
  rw [List.take_add_one, h]
  exact behind_snoc _ _ _
theorem after_rest (c : Int) (S : List En) : after c (restOf S) = after c S := by
  cases S with
  | nil => rfl
  | cons e r =>
    obtain ⟨x, n⟩ := e
    cases x with
    | nil => simp [restOf, after]
    | cons d t => rfl
theorem after_flat_none {c : Int} : ∀ (gs : List (Int × List En)), (∀ p ∈ gs, p.1 ≠ c) → after c (flat gs) = []
  | [], _ => rfl
  | p :: r, h => by
    have e : flat (p :: r) = p.2.map (pre p.1) ++ flat r := rfl
    rw [e, after_append, after_pre, if_neg (h p (by simp)), after_flat_none r fun x hx => h x (by simp [hx])]
    rfl
theorem after_flat {c : Int} : ∀ (gs : List (Int × List En)) (p : Int × List En), gs.Pairwise (fun a b => a.1 < b.1) → p ∈ gs → p.1 = c → after c (flat gs) = p.2
  | [], _, _, h, _ => by cases h
  | x :: r, p, hp, h, hc => by
    obtain ⟨h1, h2⟩ := List.pairwise_cons.1 hp
    have e : flat (x :: r) = x.2.map (pre x.1) ++ flat r := rfl
    rw [e, after_append, after_pre]
    rcases List.mem_cons.1 h with rfl | h
    · rw [if_pos hc, after_flat_none r fun y hy => by have := h1 y hy; omega, List.append_nil]
    · have := h1 p h
      rw [if_neg (by omega), after_flat r p h2 h hc]
      rfl
theorem grp_after {S : List En} (hS : Rise S) {p : Int × List En} (hp : p ∈ grp (restOf S)) : after p.1 S = p.2 := by
  obtain ⟨h1, h2⟩ := rise_rest hS
  have hf := flat_grp _ (restOf S) (Nat.le_refl _) h2
  have hl := (grp_labels _ (restOf S) (Nat.le_refl _) h2 h1).1
  rw [← after_rest, ← hf]
  exact after_flat _ p hl hp rfl
theorem after_in_grp {S : List En} (hS : Rise S) {c : Int} (h : after c S ≠ []) : (c, after c S) ∈ grp (restOf S) := by
  obtain ⟨h1, h2⟩ := rise_rest hS
  have hf := flat_grp _ (restOf S) (Nat.le_refl _) h2
  have hex : ∃ p ∈ grp (restOf S), p.1 = c := by
    apply Classical.byContradiction
    intro hno
    apply h
    rw [← after_rest, ← hf]
    exact after_flat_none _ fun p hp e => hno ⟨p, hp, e⟩
  obtain ⟨p, hp, e⟩ := hex
  have hpa := grp_after hS hp
  rw [e] at hpa
  rw [hpa, ← e]
  exact hp
theorem after_has {c : Int} {t : List Int} {n : Int} : ∀ {S : List En}, (c :: t, n) ∈ S → (t, n) ∈ after c S
  | [], h => by cases h
  | e :: r, h => by
    rw [after]
    rcases List.mem_cons.1 h with h | h
    · rw [← h]
      simp [tl]
    · split
      · exact .tail _ (after_has h)
      · exact after_has h
theorem after_rise {S : List En} (hS : Rise S) (c : Int) : Rise (after c S) := by
  by_cases h : after c S = []
  · rw [h]; exact List.Pairwise.nil
  · obtain ⟨h1, h2⟩ := rise_rest hS
    exact grp_rise _ (restOf S) (Nat.le_refl _) h2 h1 _ (after_in_grp hS h)
/-- What stands behind a word's beginning. -/
theorem behind_word : ∀ (xs : List Int) (n : Int) (S : List En), Rise S → (xs, n) ∈ S → ∀ k, k ≤ xs.length → Sub S (level (behind (xs.take k) S)) ∧ (xs.drop k, n) ∈ behind (xs.take k) S
  | xs, n, S, _, hm, 0, _ => by
    rw [List.take_zero, List.drop_zero]
    exact ⟨.here S, hm⟩
  | [], _, _, _, _, k + 1, hk => by simp at hk
  | c :: t, n, S, hr, hm, k + 1, hk => by
    have hm2 := after_has hm
    obtain ⟨h1, h2⟩ := behind_word t n (after c S) (after_rise hr c) hm2 k (by simpa using hk)
    rw [List.take_succ_cons, List.drop_succ_cons, behind]
    exact ⟨.step (after_in_grp hr (fun e => by rw [e] at hm2; cases hm2)) h1, h2⟩
theorem sub_word {S R : List En} (hs : Sub S R) : Rise S → S ≠ [] → ∃ xs n, (xs, n) ∈ S ∧ ∃ k, k ≤ xs.length ∧ R = level (behind (xs.take k) S) := by
  induction hs with
  | here S =>
    intro _ hne
    obtain ⟨e, he⟩ := List.exists_mem_of_ne_nil _ hne
    exact ⟨e.1, e.2, he, 0, Nat.zero_le _, rfl⟩
  | @step S R p hp hsub ih =>
    intro hr _
    have hpa := grp_after hr hp
    obtain ⟨h1, h2⟩ := rise_rest hr
    obtain ⟨xs, n, hm, k, hk, hR⟩ := ih (grp_rise _ (restOf S) (Nat.le_refl _) h2 h1 p hp) (grp_ne _ _ (Nat.le_refl _) p hp)
    rw [← hpa] at hm hR
    exact ⟨p.1 :: xs, n, after_mem hm, k + 1, by simpa using hk, by rw [List.take_succ_cons]; exact hR⟩
theorem behind_mem : ∀ (p : List Int) (S : List En) (e : En), e ∈ behind p S → ∃ x ∈ S, e.2 = x.2 ∧ e.1.length ≤ x.1.length
  | [], S, e, h => ⟨e, h, rfl, Nat.le_refl _⟩
  | c :: t, S, e, h => by
    obtain ⟨x, hx, h1, h2⟩ := behind_mem t (after c S) e h
    refine ⟨pre c x, after_mem hx, h1, ?_⟩
    simp only [pre, List.length_cons]
    omega
theorem behind_len : ∀ (p : List Int) (S : List En), (behind p S).length ≤ S.length
  | [], _ => Nat.le_refl _
  | c :: t, S => by
    have h1 := behind_len t (after c S)
    have h2 : ∀ l : List En, (after c l).length ≤ l.length := by
      intro l
      induction l with
      | nil => exact Nat.le_refl _
      | cons e r ih =>
        rw [after]
        split
        · simp only [List.length_cons]; omega
        · simp only [List.length_cons]; omega
    have := h2 S
    rw [behind]
    omega
theorem same_len {α : Type} [DecidableEq α] : ∀ (l m : List α), l.Nodup → m.Nodup → (∀ x, x ∈ l ↔ x ∈ m) → l.length = m.length := by
  have le : ∀ (l m : List α), l.Nodup → (∀ x ∈ l, x ∈ m) → l.length ≤ m.length := by
    intro l
    induction l with
    | nil => intro m _ _; exact Nat.zero_le _
    | cons x r ih =>
      intro m hn hs
      obtain ⟨h1, h2⟩ := List.nodup_cons.1 hn
      have hx := hs x (by simp)
      have := ih (m.erase x) h2 fun y hy => (List.mem_erase_of_ne (fun e : y = x => h1 (by rw [← e]; exact hy))).2 (hs y (by simp [hy]))
      have hl := List.length_erase_of_mem hx
      have hp : 0 < m.length := List.length_pos_of_mem hx
      simp only [List.length_cons]
      omega
  intro l m hl hm h
  exact Nat.le_antisymm (le l m hl fun x hx => (h x).1 hx) (le m l hm fun x hx => (h x).2 hx)
end Go.Proofs.YtllmdfkiogmofaaGreatDoor.Fm

/- The reference's way of making states, by levelled rests, makes the same states. No program is named here. -/
namespace Go.Proofs.YtllmdfkiogmofaaGreatDoor.Fm
open Go.Proofs.YtllmdfkiogmofaaGreatDoor.Nums

def refA (st : List (List En) → List St → List En → List (List En) × List St × Nat) : List (List En) → List St → List (Int × List En) → List (List En) × List St × List Arc
  | D, b, [] => (D, b, [])
  | D, b, (c, G) :: r => ((refA st (st D b G).1 (st D b G).2.1 r).1, (refA st (st D b G).1 (st D b G).2.1 r).2.1, ⟨c, least G, (st D b G).2.2⟩ :: (refA st (st D b G).1 (st D b G).2.1 r).2.2)
/-- The reference: what is known (levelled rests, states), and the number. -/
def refF : Nat → List (List En) → List St → List En → List (List En) × List St × Nat
  | 0, D, b, _ => (D, b, 0)
  | f + 1, D, b, S => if level S ∈ D then (D, b, D.idxOf (level S)) else
    ((refA (refF f) D b (grp (restOf (level S)))).1 ++ [level S], (refA (refF f) D b (grp (restOf (level S)))).2.1 ++ [⟨finOf S, outOf (level S), (refA (refF f) D b (grp (restOf (level S)))).2.2⟩], (refA (refF f) D b (grp (restOf (level S)))).2.1.length)
/-- States say which rests they are of. -/
theorem inv_one {D D2 : List (List En)} {b : List St} (h : Inv D b) (h2 : Inv D2 b) : D = D2 := by
  have key : ∀ n i : Nat, i < n → D[i]? = D2[i]? := by
    intro n
    induction n with
    | zero => intro i hi; omega
    | succ n ih =>
      intro i hi
      by_cases hib : i < b.length
      · obtain ⟨s, hs⟩ : ∃ s, b[i]? = some s := ⟨b[i], List.getElem?_eq_getElem hib⟩
        obtain ⟨e1, t1, _⟩ := h.row i s hs
        obtain ⟨e2, _, _⟩ := h2.row i s hs
        rw [e1, e2]
        unfold exp outs
        have : (s.arcs.map fun a => (a.label, shift a.out (D[a.to]?.getD []))) = s.arcs.map fun a => (a.label, shift a.out (D2[a.to]?.getD [])) :=
          List.map_congr_left fun a ha => by rw [ih a.to (by have := t1 a ha; omega)]
        rw [this]
      · rw [List.getElem?_eq_none (by have := h.len; omega), List.getElem?_eq_none (by have := h2.len; omega)]
  exact List.ext_getElem? fun i => key (i + 1) i (Nat.lt_succ_self i)
theorem inv_push {D : List (List En)} {b : List St} {s : St} {L : List En} (h : Inv D b) (hcan : Canon D s) (hexp : exp D s = L) (hn : L ∉ D) (hL : L ≠ [] ∧ least L = 0) : Inv (D ++ [L]) (b ++ [s]) := by
  have hlen := h.len
  have hpre : D <+: D ++ [L] := List.prefix_append _ _
  refine ⟨by simp [hlen], fun i t hi => ?_, ?_, fun R hR => ?_⟩
  · by_cases hib : i < b.length
    · rw [List.getElem?_append_left hib] at hi
      obtain ⟨e1, e2, ct⟩ := h.row i t hi
      refine ⟨?_, e2, ct.pre hpre⟩
      rw [pre_get hpre (by omega), e1, exp_pre hpre ct.to]
    · rw [List.getElem?_append_right (by omega)] at hi
      cases hi0 : i - b.length with
      | zero =>
        rw [hi0] at hi
        simp only [List.getElem?_cons_zero, Option.some.injEq] at hi
        subst hi
        refine ⟨?_, fun a ha => by have := hcan.to a ha; omega, hcan.pre hpre⟩
        rw [exp_pre hpre hcan.to, hexp, List.getElem?_append_right (by omega), hlen, hi0]
        rfl
      | succ j => rw [hi0] at hi; simp at hi
  · rw [List.nodup_append]
    exact ⟨h.nd, by simp, fun a ha c hc => by rw [List.mem_singleton.1 hc]; exact fun e => hn (e ▸ ha)⟩
  · rcases List.mem_append.1 hR with h1 | h1
    · exact h.lv R h1
    · rw [List.mem_singleton.1 h1]; exact hL
theorem in_restOf {S : List En} {e : En} (h : e ∈ restOf S) : e ∈ S := by
  cases S with
  | nil => exact h
  | cons y r =>
    obtain ⟨a, n⟩ := y
    cases a with
    | nil => exact .tail _ h
    | cons c t => exact h
theorem grp_tl : ∀ (m : Nat) (l : List En), l.length ≤ m → ∀ p ∈ grp l, ∀ e ∈ p.2, ∃ x ∈ l, e = tl x
  | _, [], _, _, hp, _, _ => by cases hp
  | 0, y :: r, h, _, _, _, _ => by simp at h
  | m + 1, y :: r, hl, p, hp, e, he => by
    rw [grp_cons] at hp
    rcases List.mem_cons.1 hp with rfl | hp
    · obtain ⟨x, hx, rfl⟩ := List.mem_map.1 he
      exact ⟨x, List.mem_of_mem_take hx, rfl⟩
    · obtain ⟨x, hx, h2⟩ := grp_tl m ((y :: r).drop (lead (hd y) r + 1)) (by rw [List.length_drop]; simp at hl ⊢; omega) p hp e he
      exact ⟨x, List.mem_of_mem_drop hx, h2⟩
theorem sub_short {T R : List En} (hs : Sub T R) {k : Nat} : (∀ e ∈ T, e.1.length ≤ k) → ∀ e ∈ R, e.1.length ≤ k := by
  induction hs with
  | here T =>
    intro h e he
    obtain ⟨x, hx, rfl⟩ := List.mem_map.1 he
    exact h x hx
  | @step T' R' p hp hsub ih =>
    intro h
    refine ih fun e he => ?_
    obtain ⟨x, hx, rfl⟩ := grp_tl _ _ (Nat.le_refl _) p hp e he
    have := h x (in_restOf hx)
    simp only [tl, List.length_tail]
    omega
theorem longest : ∀ T : List En, T ≠ [] → ∃ e ∈ T, ∀ x ∈ T, x.1.length ≤ e.1.length
  | [], h => absurd rfl h
  | y :: r, _ => by
    by_cases hr : r = []
    · subst hr; exact ⟨y, by simp, fun x hx => by rw [List.mem_singleton] at hx; subst hx; exact Nat.le_refl _⟩
    · obtain ⟨e, he, h⟩ := longest r hr
      by_cases hl : e.1.length ≤ y.1.length
      · exact ⟨y, by simp, fun x hx => by
          rcases List.mem_cons.1 hx with rfl | hx
          · exact Nat.le_refl _
          · exact Nat.le_trans (h x hx) hl⟩
      · exact ⟨e, by simp [he], fun x hx => by
          rcases List.mem_cons.1 hx with rfl | hx
          · omega
          · exact h x hx⟩
/-- A whole is none of its own parts. -/
theorem not_own {S : List En} (h0 : S ≠ []) (hr : Rise S) {p : Int × List En} (hp : p ∈ grp (restOf S)) : ¬ Sub p.2 (level S) := fun h => by
  obtain ⟨_, hr2⟩ := rise_rest hr
  obtain ⟨e, he, hmax⟩ := longest S h0
  obtain ⟨g0, hg0⟩ : ∃ g0, g0 ∈ p.2 := List.exists_mem_of_ne_nil _ (grp_ne _ _ (Nat.le_refl _) p hp)
  have hpos : 0 < e.1.length := by
    have := hmax _ (in_restOf (grp_mem hr2 hp hg0))
    simp only [pre, List.length_cons] at this
    omega
  have hk := sub_short h (k := e.1.length - 1) (fun x hx => by
    have := hmax _ (in_restOf (grp_mem hr2 hp hx))
    simp only [pre, List.length_cons] at this
    omega) (e.1, e.2 + -least S) (List.mem_map.2 ⟨e, he, rfl⟩)
  simp only at hk
  omega
theorem outOf_shift (n : Int) {S : List En} (h : S ≠ []) : outOf (shift n S) = outOf S := by
  cases S with
  | nil => exact absurd rfl h
  | cons e r =>
    have hs := least_shift n h
    obtain ⟨x, m⟩ := e
    cases x with
    | nil =>
      show m + n - least (shift n (([], m) :: r)) = m - least (([], m) :: r)
      omega
    | cons c t => rfl
theorem refF_shift (f : Nat) (D : List (List En)) (b : List St) (n : Int) {S : List En} (h : S ≠ []) : refF f D b (shift n S) = refF f D b S := by
  cases f with
  | zero => rfl
  | succ f => rw [refF, refF, level_shift n h, finOf_shift]
theorem refA_eq {f : Nat} {base : Int} (ih : ∀ (D : List (List En)) (b : List St) (S : List En), Inv D b → Good f S → (refF f D b S).2 = stF f b S ∧ Inv (refF f D b S).1 (stF f b S).1) :
    ∀ (gs : List (Int × List En)) (D : List (List En)) (b : List St), Inv D b → (∀ p ∈ gs, Good f p.2) → (refA (refF f) D b (gs.map fun p => (p.1, shift (-base) p.2))).2 = arF (stF f) base b gs ∧ Inv (refA (refF f) D b (gs.map fun p => (p.1, shift (-base) p.2))).1 (arF (stF f) base b gs).1
  | [], D, b, hI, _ => ⟨rfl, hI⟩
  | (c, G) :: r, D, b, hI, hG => by
    have hGG := hG (c, G) (by simp)
    obtain ⟨e1, i1⟩ := ih D b G hI hGG
    obtain ⟨e2, i2⟩ := refA_eq ih r (refF f D b G).1 (stF f b G).1 i1 (fun p hp => hG p (by simp [hp]))
    have hne : G ≠ [] := hGG.1
    have hl : least (shift (-base) G) = least G - base := by rw [least_shift _ hne]; omega
    simp only [List.map_cons, refA, arF, refF_shift f D b (-base) hne, e1, hl]
    refine ⟨?_, i2⟩
    rw [← e2]
/-- The reference makes the same states with the same numbers. -/
theorem ref_st : ∀ (f : Nat) (D : List (List En)) (b : List St) (S : List En), Inv D b → Good f S → (refF f D b S).2 = stF f b S ∧ Inv (refF f D b S).1 (stF f b S).1
  | 0, _, _, S, _, h => by
    obtain ⟨h0, _, h2⟩ := h
    cases S with
    | nil => exact absurd rfl h0
    | cons e r => exact absurd (h2 e (by simp)) (by omega)
  | f + 1, D, b, S, hI, hG => by
    by_cases hm : level S ∈ D
    · obtain ⟨D', M⟩ := stF_spec (f + 1) D b S hI hG
      obtain ⟨e1, e2⟩ := M.old (D.idxOf (level S)) (by rw [List.getElem?_eq_getElem (List.idxOf_lt_length_of_mem hm), List.getElem_idxOf])
      rw [e1, refF, if_pos hm]
      exact ⟨rfl, hI⟩
    · obtain ⟨hr1, hr2⟩ := rise_rest hG.2.1
      have hgg := good_groups hG
      have hfl := flat_grp _ (restOf S) (Nat.le_refl _) hr2
      have hlab := (grp_labels _ (restOf S) (Nat.le_refl _) hr2 hr1).1
      obtain ⟨D1, M⟩ := arF_spec (base := least S) (stF_spec f) (grp (restOf S)) D b hI hgg
      obtain ⟨e1, i1⟩ := refA_eq (base := least S) (ref_st f) (grp (restOf S)) D b hI hgg
      have hgr : grp (restOf (level S)) = (grp (restOf S)).map fun p => (p.1, shift (-least S) p.2) := by rw [level, restOf_shift, grp_shift]
      have ho : outOf (level S) = outOf S := outOf_shift _ hG.1
      rw [refF, if_neg hm, stF, hgr, ho]
      rw [inv_one i1 M.inv, e1]
      generalize arF (stF f) (least S) b (grp (restOf S)) = q at M
      obtain ⟨b1, arcs⟩ := q
      simp only at M ⊢
      have hcan : Canon D1 ⟨finOf S, outOf S, arcs⟩ := by
        refine ⟨outs_labels M.outs hlab, M.to, fun h => ?_⟩
        cases S with
        | nil => rfl
        | cons e r =>
          obtain ⟨x, n⟩ := e
          cases x with
          | nil => cases h
          | cons c t => rfl
      have hexp : exp D1 ⟨finOf S, outOf S, arcs⟩ = level S := by
        rw [exp, level, fins_shift S arcs, M.outs, ← flat_shift, hfl]
      have hn1 : level S ∉ D1 := fun h => by
        rcases M.sub _ h with h | ⟨p, hp, h⟩
        · exact hm h
        · exact not_own hG.1 hG.2.1 hp h
      have hnot : (⟨finOf S, outOf S, arcs⟩ : St) ∉ b1 := fun h => by
        obtain ⟨j, hj⟩ := List.mem_iff_getElem?.1 h
        have h1 := (M.inv.row j _ hj).1
        rw [hexp] at h1
        exact hn1 (List.mem_of_getElem? h1)
      rw [numSt, if_neg hnot]
      exact ⟨rfl, inv_push M.inv hcan hexp hn1 ⟨level_ne.2 hG.1, least_level hG.1⟩⟩
end Go.Proofs.YtllmdfkiogmofaaGreatDoor.Fm
