/- The reference's reading of machines: it comes to the same. No program is named here. -/
import Derived.Test.YtllmdfkiogmofaaGreatDoorK1
import Derived.Test.YtllmdfkiogmofaaGreatDoorG7
namespace Go.Proofs.YtllmdfkiogmofaaGreatDoor.Pk
open Go.Proofs.YtllmdfkiogmofaaGreatDoor.Cd (uw uintR front num)
open Go.Proofs.YtllmdfkiogmofaaGreatDoor.Fm Go.Proofs.YtllmdfkiogmofaaGreatDoor

def uqA (n : Nat) : Nat → Int → List RArc → Rs → Option (List RArc × Rs)
  | 0, _, acc, st => some (acc, st)
  | c + 1, p, acc, st => if st.2 ≠ 0 then some (acc, st) else
      if p + (rU st 1114111).1 > 1114111 then none else
      uqA n c (p + (rU st 1114111).1) (acc ++ [⟨p + (rU st 1114111).1, (rU (rU st 1114111).2 1048576).1, n - (rU (rU (rU st 1114111).2 1048576).2 98305).1⟩]) (rU (rU (rU st 1114111).2 1048576).2 98305).2
def uqH (N : Nat) (st : Rs) : Nat × Rs := rU st (2 * N + 1)
def uqS (N n : Nat) (st : Rs) : Option (RSt × Rs) :=
  (uqA n ((uqH N st).1 / 2) 0 [] (rdO (uqH N st).1 (uqH N st).2).2).map fun q => (⟨decide ((uqH N st).1 % 2 = 1), (rdO (uqH N st).1 (uqH N st).2).1, q.1⟩, q.2)
def uqM (N : Nat) : Nat → Nat → List RSt → Rs → Option (List RSt × Rs)
  | 0, _, acc, st => some (acc, st)
  | c + 1, i, acc, st => if st.2 ≠ 0 then some (acc, st) else match uqS N i st with
    | none => none
    | some q => uqM N c (i + 1) (acc ++ [q.1]) q.2
def uqB (xs : List Nat) : Nat × Rs := rU (xs, 0) 1048576
def uqC (xs : List Nat) : Nat × Rs := rU (uqB xs).2 98305
def uqAll (xs : List Nat) : Option (List RSt × Rs) := uqM xs.length (uqC xs).1 0 [] (uqC xs).2
/-- Is it told that all is well? -/
def fineB (xs : List Nat) : Bool := match uqAll xs with
  | none => false
  | some q => decide (q.2.2 = 0 ∧ q.2.1 = []) && rightB ((uqB xs).1 : Int) q.1 && decide (packB ((uqB xs).1 : Int) q.1 = xs)
theorem uqA_put {n : Nat} (hn : n ≤ 98305) : ∀ (l : List RArc) (p : Int) (acc : List RArc) (r : List Nat), 0 ≤ p → OkA n p l → uqA n l.length p acc (putA n p l ++ r, 0) = some (acc ++ l, (r, 0))
  | [], p, acc, r, _, _ => by simp [uqA, putA]
  | a :: l, p, acc, r, hp, h => by
    obtain ⟨h1, h2, h3, h4, h5, h6, h7⟩ := h
    have e1 := rU_put (m := (a.label - p).toNat) (most := 1114111) (by omega) (by omega) (uw a.out.toNat ++ (uw ((n : Int) - a.to).toNat ++ (putA n a.label l ++ r)))
    have e2 := rU_put (m := a.out.toNat) (most := 1048576) (by omega) (by omega) (uw ((n : Int) - a.to).toNat ++ (putA n a.label l ++ r))
    have e3 := rU_put (m := ((n : Int) - a.to).toNat) (most := 98305) (by omega) (by omega) (putA n a.label l ++ r)
    have ei : putA n p (a :: l) ++ r = uw (a.label - p).toNat ++ (uw a.out.toNat ++ (uw ((n : Int) - a.to).toNat ++ (putA n a.label l ++ r))) := by simp [putA]
    have g1 : p + ((a.label - p).toNat : Int) = a.label := by omega
    have g2 : (a.out.toNat : Int) = a.out := by omega
    have g3 : (n : Int) - ((((n : Int) - a.to).toNat : Nat) : Int) = a.to := by omega
    rw [ei, List.length_cons, uqA, if_neg (by simp), e1, e2, e3]
    simp only [g1, g2, g3]
    rw [if_neg (by omega), uqA_put hn l a.label (acc ++ [a]) r (by omega) h7]
    simp
theorem uqS_put {N n : Nat} (hn : n ≤ 98305) {s : RSt} (h : OkS n s) (hN : s.arcs.length ≤ N) (r : List Nat) : uqS N n (putS s n ++ r, 0) = some (s, (r, 0)) := by
  obtain ⟨h1, h2, h3, h4, h5⟩ := h
  have hh : (headS s).toNat = 2 * s.arcs.length + (if s.final then 1 else 0) := by unfold headS; split <;> omega
  have e1 := rU_put (m := (headS s).toNat) (most := 2 * N + 1) (by rw [hh]; split <;> omega) (by rw [hh]; split <;> omega) ((if s.final then uw s.out.toNat else []) ++ (putA n 0 s.arcs ++ r))
  have ei : putS s n ++ r = uw (headS s).toNat ++ ((if s.final then uw s.out.toNat else []) ++ (putA n 0 s.arcs ++ r)) := by simp [putS]
  have hdiv : (headS s).toNat / 2 = s.arcs.length := by rw [hh]; split <;> omega
  have hmod : (headS s).toNat % 2 = 1 ↔ s.final = true := by
    rw [hh]
    cases s.final <;> simp <;> omega
  have ho : rdO (headS s).toNat ((if s.final then uw s.out.toNat else []) ++ (putA n 0 s.arcs ++ r), 0) = (s.out.toNat, (putA n 0 s.arcs ++ r, 0)) := by
    unfold rdO
    cases hf : s.final with
    | true =>
      rw [if_pos (hmod.2 hf), if_pos rfl]
      exact rU_put (by omega) (by omega) _
    | false =>
      rw [if_neg (fun e => by rw [hmod.1 e] at hf; cases hf), h2 hf]
      simp
  have eh : uqH N (putS s n ++ r, 0) = ((headS s).toNat, ((if s.final then uw s.out.toNat else []) ++ (putA n 0 s.arcs ++ r), 0)) := by unfold uqH; rw [ei, e1]
  unfold uqS
  rw [eh]
  simp only
  rw [ho]
  simp only
  rw [hdiv, uqA_put hn s.arcs 0 [] r (Int.le_refl _) h5]
  have hfin : decide ((headS s).toNat % 2 = 1) = s.final := by
    cases hf : s.final with
    | true => exact decide_eq_true (hmod.2 hf)
    | false => exact decide_eq_false (fun e => by rw [hmod.1 e] at hf; cases hf)
  have ho2 : ((s.out.toNat : Nat) : Int) = s.out := by omega
  simp only [Option.map_some, List.nil_append]
  rw [hfin, ho2]
theorem uqM_put {N : Nat} : ∀ (m : List RSt) (i : Nat) (acc : List RSt) (r : List Nat), i + m.length ≤ 98305 → (∀ (j : Nat) (s : RSt), m[j]? = some s → OkS (i + j) s ∧ s.arcs.length ≤ N) → uqM N m.length i acc (putM i m ++ r, 0) = some (acc ++ m, (r, 0))
  | [], i, acc, r, _, _ => by simp [uqM, putM]
  | s :: m, i, acc, r, hl, h => by
    have hs := uqS_put (n := i) (by simp at hl; omega) (h 0 s rfl).1 (h 0 s rfl).2 (putM (i + 1) m ++ r)
    have ei : putM i (s :: m) ++ r = putS s i ++ (putM (i + 1) m ++ r) := by simp [putM]
    rw [ei, List.length_cons, uqM, if_neg (by simp), hs]
    simp only
    rw [uqM_put m (i + 1) (acc ++ [s]) r (by simp at hl; omega) (fun j t hj => by have := h (j + 1) t (by simpa using hj); rwa [show i + (j + 1) = i + 1 + j by omega] at this)]
    simp
theorem uw_pos (n : Nat) : 1 ≤ (uw n).length := by
  unfold Cd.uw
  split <;> simp
theorem putA_ge (n : Int) : ∀ (l : List RArc) (p : Int), l.length ≤ (putA n p l).length
  | [], _ => by simp
  | a :: l, p => by
    have h1 := putA_ge n l a.label
    have h2 := uw_pos (a.label - p).toNat
    simp only [putA, List.length_append, List.length_cons]
    omega
theorem putM_ge : ∀ (m : List RSt) (i j : Nat) (s : RSt), m[j]? = some s → s.arcs.length ≤ (putM i m).length
  | [], _, _, _, h => by simp at h
  | t :: m, i, 0, s, h => by
    simp at h; subst h
    have := putA_ge i t.arcs 0
    simp only [putM, putS, List.length_append]
    omega
  | t :: m, i, j + 1, s, h => by
    have := putM_ge m (i + 1) j s (by simpa using h)
    simp only [putM, List.length_append]
    omega
theorem uq_put {base : Int} {m : List RSt} (h0 : 0 ≤ base) (h1 : base ≤ 1048576) (hl : m.length ≤ 98305) (h : ∀ (j : Nat) (s : RSt), m[j]? = some s → OkS j s) : (uqB (packB base m)).1 = base.toNat ∧ uqAll (packB base m) = some (m, ([], 0)) := by
  have e1 := rU_put (m := base.toNat) (most := 1048576) (by omega) (by omega) (uw m.length ++ (putM 0 m ++ []))
  have e2 := rU_put (m := m.length) (most := 98305) hl (by omega) (putM 0 m ++ [])
  have ei : packB base m = uw base.toNat ++ (uw m.length ++ (putM 0 m ++ [])) := by simp [packB]
  have hB : uqB (packB base m) = (base.toNat, (uw m.length ++ (putM 0 m ++ []), 0)) := by unfold uqB; rw [ei, e1]
  have hC : uqC (packB base m) = (m.length, (putM 0 m ++ [], 0)) := by unfold uqC; rw [hB]; exact e2
  refine ⟨by rw [hB], ?_⟩
  unfold uqAll
  rw [hC]
  have hg : ∀ (j : Nat) (s : RSt), m[j]? = some s → s.arcs.length ≤ (packB base m).length := fun j s hj => by
    have := putM_ge m 0 j s hj
    simp only [packB, List.length_append]
    omega
  rw [uqM_put m 0 [] [] (by omega) (fun j s hj => by rw [Nat.zero_add]; exact ⟨h j s hj, hg j s hj⟩)]
  simp
/-- It comes to the same. -/
theorem fine_good {xs : List Nat} (hx : ∀ x ∈ xs, x < 256) : fineB xs = goodB xs ∧ (goodB xs = true → (uqB xs).1 = (rdAll xs).1 ∧ uqAll xs = some ((rdAll xs).2.1, ([], 0))) := by
  have hyes : goodB xs = true → (uqB xs).1 = (rdAll xs).1 ∧ uqAll xs = some ((rdAll xs).2.1, ([], 0)) := fun h => by
    obtain ⟨g1, g2, g3⟩ := good_facts hx h
    obtain ⟨l, hC, hm, hmm⟩ := right_built g2
    have hok : ∀ (j : Nat) (s : RSt), (rdAll xs).2.1[j]? = some s → OkS j s := fun j s hj => built_okS hC j s (by rw [hm, hmm]; exact hj)
    have hb := built_base hC
    rw [hm] at hb
    have := uq_put hb.1 hb.2 g3 hok
    rw [g1] at this
    simpa using this
  refine ⟨?_, hyes⟩
  cases hg : goodB xs with
  | true =>
    obtain ⟨g1, g2, g3⟩ := good_facts hx hg
    obtain ⟨k1, k2⟩ := hyes hg
    unfold fineB
    rw [k2, k1]
    simp [g1, g2]
  | false =>
    unfold fineB
    cases hr : uqAll xs with
    | none => rfl
    | some q =>
      simp only
      apply Bool.eq_false_iff.2
      intro hh
      simp only [Bool.and_eq_true, decide_eq_true_eq] at hh
      obtain ⟨⟨_, h2⟩, h3⟩ := hh
      obtain ⟨l, hC, hm, hmm⟩ := right_built h2
      have := (good_built hC).1
      rw [hm, hmm] at this
      simp only at this
      rw [h3, hg] at this
      cases this
end Go.Proofs.YtllmdfkiogmofaaGreatDoor.Pk
