/- Words and weights in order, and changes of them: plain mathematics over any order of words. No program is named here. -/
import Derived.WalkKit
namespace Go.Proofs.Ytmpfcdffpjocnaa.Pm

/-- A strict order in which any two are ordered. -/
structure STO {κ : Type} (less : κ → κ → Bool) : Prop where
  irr : ∀ a, less a a = false
  tr : ∀ a b c, less a b = true → less b c = true → less a c = true
  tot : ∀ a b, less a b = false → less b a = false → a = b
section
variable {κ : Type} {less : κ → κ → Bool}
theorem STO.asymm (h : STO less) {a b : κ} (hab : less a b = true) : less b a = false := by
  cases e : less b a with
  | false => rfl
  | true => have := h.tr a b a hab e; rw [h.irr] at this; cases this
theorem STO.ntr (h : STO less) {a b c : κ} (h1 : less b a = false) (h2 : less c b = false) : less c a = false := by
  cases e : less c a with
  | false => rfl
  | true =>
    cases e2 : less a b with
    | true => have := h.tr c a b e e2; rw [h2] at this; cases this
    | false => have := h.tot a b e2 h1; subst this; rw [e] at h2; cases h2
theorem STO.ne (h : STO less) {a b : κ} (hab : less a b = true) : a ≠ b := fun e => by subst e; rw [h.irr] at hab; cases hab

/-- The words rise. -/
def Up (less : κ → κ → Bool) (l : List (κ × Int)) : Prop := l.Pairwise fun x y => less y.1 x.1 = false
/-- The words rise strictly. -/
def SUp (less : κ → κ → Bool) (l : List (κ × Int)) : Prop := l.Pairwise fun x y => less x.1 y.1 = true
theorem SUp.up (o : STO less) {l : List (κ × Int)} (h : SUp less l) : Up less l := h.imp fun h => o.asymm h
/-- Without the pairs whose weight is 0. -/
def keep (l : List (κ × Int)) : List (κ × Int) := l.filter fun x => !(x.2 == 0)
theorem keep_up {l : List (κ × Int)} (h : SUp less l) : SUp less (keep l) := h.filter _
/-- What a change from one weight to the other says of a word. -/
def chg : Option Int → Option Int → Option Int
  | none, none => none
  | some _, none => some 0
  | none, some w => some w
  | some v, some w => if v = w then none else some w
/-- The changes, going through both lists at once. -/
def dif (less : κ → κ → Bool) : List (κ × Int) → List (κ × Int) → List (κ × Int)
  | [], y => y
  | x :: a, [] => (x.1, 0) :: dif less a []
  | x :: a, y :: b => if less x.1 y.1 then (x.1, 0) :: dif less a (y :: b) else if less y.1 x.1 then y :: dif less (x :: a) b else if x.2 = y.2 then dif less a b else y :: dif less a b
termination_by a b => a.length + b.length
theorem dif_nil (y : List (κ × Int)) : dif less [] y = y := by unfold dif; rfl
theorem dif_end : ∀ (a : List (κ × Int)), dif less a [] = a.map fun x => (x.1, 0)
  | [] => by unfold dif; rfl
  | x :: a => by unfold dif; rw [dif_end a]; rfl
theorem dif_cons (x y : κ × Int) (a b : List (κ × Int)) : dif less (x :: a) (y :: b) = if less x.1 y.1 then (x.1, 0) :: dif less a (y :: b) else if less y.1 x.1 then y :: dif less (x :: a) b else if x.2 = y.2 then dif less a b else y :: dif less a b := by rw [dif]
theorem dif_low (z : κ) : ∀ (a b : List (κ × Int)), (∀ x ∈ a, less z x.1 = true) → (∀ x ∈ b, less z x.1 = true) → ∀ x ∈ dif less a b, less z x.1 = true := by
  intro a b
  induction a, b using dif.induct (less := less) with
  | case1 y => intro _ h2 x hx; rw [dif_nil] at hx; exact h2 x hx
  | case2 x a ih =>
    intro h1 h2 u hu
    rw [dif_end] at hu
    obtain ⟨v, hv, rfl⟩ := List.mem_map.1 hu
    exact h1 v hv
  | case3 x a y b c ih =>
    intro h1 h2 u hu
    rw [dif_cons, if_pos c] at hu
    rcases List.mem_cons.1 hu with rfl | hm
    · exact h1 x (List.mem_cons_self ..)
    · exact ih (fun v hv => h1 v (List.mem_cons_of_mem _ hv)) h2 u hm
  | case4 x a y b c c2 ih =>
    intro h1 h2 u hu
    rw [dif_cons, if_neg c, if_pos c2] at hu
    rcases List.mem_cons.1 hu with rfl | hm
    · exact h2 u (List.mem_cons_self ..)
    · exact ih h1 (fun v hv => h2 v (List.mem_cons_of_mem _ hv)) u hm
  | case5 x a y b c c2 c3 ih =>
    intro h1 h2 u hu
    rw [dif_cons, if_neg c, if_neg c2, if_pos c3] at hu
    exact ih (fun v hv => h1 v (List.mem_cons_of_mem _ hv)) (fun v hv => h2 v (List.mem_cons_of_mem _ hv)) u hu
  | case6 x a y b c c2 c3 ih =>
    intro h1 h2 u hu
    rw [dif_cons, if_neg c, if_neg c2, if_neg c3] at hu
    rcases List.mem_cons.1 hu with rfl | hm
    · exact h2 u (List.mem_cons_self ..)
    · exact ih (fun v hv => h1 v (List.mem_cons_of_mem _ hv)) (fun v hv => h2 v (List.mem_cons_of_mem _ hv)) u hm
end
variable {κ : Type} [DecidableEq κ] {less : κ → κ → Bool}
/-- The pairs of one word, in their order. -/
def of (k : κ) (l : List (κ × Int)) : List (κ × Int) := l.filter fun x => decide (x.1 = k)
theorem of_nil (k : κ) : of k ([] : List (κ × Int)) = [] := rfl
theorem of_append (k : κ) (a b : List (κ × Int)) : of k (a ++ b) = of k a ++ of k b := List.filter_append ..
theorem of_cons_same (x : κ × Int) (l : List (κ × Int)) : of x.1 (x :: l) = x :: of x.1 l := by simp [of]
theorem of_cons_ne {k : κ} {x : κ × Int} (h : x.1 ≠ k) (l : List (κ × Int)) : of k (x :: l) = of k l := by simp [of, h]
/-- The last weight of a word. -/
def find (l : List (κ × Int)) (k : κ) : Option Int := ((of k l).getLast?).map Prod.snd
theorem find_nil (k : κ) : find ([] : List (κ × Int)) k = none := rfl
theorem find_append (a b : List (κ × Int)) (k : κ) : find (a ++ b) k = (find b k).or (find a k) := by
  unfold find
  rw [of_append, List.getLast?_append]
  cases (of k b).getLast? <;> simp
theorem find_one (x : κ × Int) (k : κ) : find [x] k = if x.1 = k then some x.2 else none := by
  unfold find of
  by_cases h : x.1 = k <;> simp [h]
theorem find_cons (x : κ × Int) (l : List (κ × Int)) (k : κ) : find (x :: l) k = (find l k).or (if x.1 = k then some x.2 else none) := by
  rw [← List.singleton_append, find_append, find_one]
theorem find_snoc (x : κ × Int) (l : List (κ × Int)) (k : κ) : find (l ++ [x]) k = if x.1 = k then some x.2 else find l k := by
  rw [find_append, find_one]
  by_cases h : x.1 = k <;> simp [h]
theorem find_none_of {l : List (κ × Int)} {k : κ} (h : ∀ x ∈ l, x.1 ≠ k) : find l k = none := by
  induction l with
  | nil => rfl
  | cons x r ih => rw [find_cons, ih fun y hy => h y (List.mem_cons_of_mem _ hy), if_neg (h x (List.mem_cons_self ..))]; rfl
theorem find_mem {l : List (κ × Int)} {k : κ} {v : Int} (h : find l k = some v) : (k, v) ∈ l := by
  induction l with
  | nil => cases h
  | cons x r ih =>
    rw [find_cons] at h
    cases e : find r k with
    | some u => rw [e] at h; simp at h; subst h; exact List.mem_cons_of_mem _ (ih e)
    | none =>
      rw [e] at h
      by_cases hk : x.1 = k
      · simp [hk] at h; subst hk; subst h; exact List.mem_cons_self ..
      · simp [hk] at h

theorem SUp.find_of_mem (o : STO less) {l : List (κ × Int)} (h : SUp less l) {x : κ × Int} (hx : x ∈ l) : find l x.1 = some x.2 := by
  induction l with
  | nil => cases hx
  | cons y r ih =>
    obtain ⟨h1, h2⟩ := List.pairwise_cons.1 h
    rw [find_cons]
    rcases List.mem_cons.1 hx with rfl | hm
    · rw [find_none_of fun z hz => (o.ne (h1 z hz)).symm]; simp
    · rw [ih h2 hm]; rfl
theorem SUp.ext (o : STO less) : ∀ {a b : List (κ × Int)}, SUp less a → SUp less b → (∀ k, find a k = find b k) → a = b
  | [], [], _, _, _ => rfl
  | [], y :: b, _, h2, h => by
    have := h y.1
    rw [SUp.find_of_mem o h2 (List.mem_cons_self ..)] at this
    cases this
  | x :: a, [], h1, _, h => by
    have := h x.1
    rw [SUp.find_of_mem o h1 (List.mem_cons_self ..)] at this
    cases this
  | x :: a, y :: b, h1, h2, h => by
    obtain ⟨p1, p2⟩ := List.pairwise_cons.1 h1
    obtain ⟨q1, q2⟩ := List.pairwise_cons.1 h2
    have e1 := h x.1
    have e2 := h y.1
    rw [SUp.find_of_mem o h1 (List.mem_cons_self ..)] at e1
    rw [SUp.find_of_mem o h2 (List.mem_cons_self ..)] at e2
    have m1 := find_mem e1.symm
    have m2 := find_mem e2
    have hxy : x = y := by
      rcases List.mem_cons.1 m1 with c | c
      · rw [← c]
      · rcases List.mem_cons.1 m2 with d | d
        · rw [← d]
        · have := o.tr _ _ _ (p1 _ d) (q1 _ c); simp [o.irr] at this
    subst hxy
    congr 1
    refine SUp.ext o p2 q2 fun k => ?_
    have hk := h k
    rw [find_cons, find_cons] at hk
    by_cases hx : x.1 = k
    · subst hx
      rw [find_none_of fun z hz => (o.ne (p1 z hz)).symm, find_none_of fun z hz => (o.ne (q1 z hz)).symm]
    · simpa [hx] using hk

/-- A list that is in order, in which the pairs of each word stand as in l. -/
def Stably (less : κ → κ → Bool) (l l' : List (κ × Int)) : Prop := Up less l' ∧ ∀ k, of k l' = of k l
theorem Stably.find {l l' : List (κ × Int)} (h : Stably less l l') (k : κ) : Pm.find l' k = Pm.find l k := by unfold Pm.find; rw [h.2]

/-- The last pair of each word of a list in which pairs of one word stand together. -/
def lastE : List (κ × Int) → List (κ × Int)
  | [] => []
  | [x] => [x]
  | x :: y :: r => if y.1 = x.1 then lastE (y :: r) else x :: lastE (y :: r)
theorem lastE_sub : ∀ (l : List (κ × Int)), ∀ x ∈ lastE l, x ∈ l
  | [], x, h => h
  | [y], x, h => h
  | y :: z :: r, x, h => by
    rw [lastE] at h
    split at h
    · exact List.mem_cons_of_mem _ (lastE_sub _ x h)
    · rcases List.mem_cons.1 h with rfl | h
      · exact List.mem_cons_self ..
      · exact List.mem_cons_of_mem _ (lastE_sub _ x h)
theorem lastE_ne (x : κ × Int) (r : List (κ × Int)) : lastE (x :: r) ≠ [] := by
  induction r generalizing x with
  | nil => simp [lastE]
  | cons y r ih => rw [lastE]; split; exact ih y; simp
theorem lastE_ok (o : STO less) : ∀ (l : List (κ × Int)), Up less l → SUp less (lastE l) ∧ ∀ k, find (lastE l) k = find l k
  | [], _ => ⟨List.Pairwise.nil, fun _ => rfl⟩
  | [x], _ => ⟨List.pairwise_singleton .., fun _ => rfl⟩
  | x :: y :: r, h => by
    obtain ⟨h1, h2⟩ := List.pairwise_cons.1 h
    obtain ⟨i1, i2⟩ := lastE_ok o (y :: r) h2
    rw [lastE]
    split
    · next e =>
      refine ⟨i1, fun k => ?_⟩
      rw [i2, find_cons x, find_cons y]
      by_cases hk : x.1 = k
      · rw [if_pos (e.trans hk)]
        cases find r k <;> rfl
      · rw [if_neg hk]; simp
    · next e =>
      refine ⟨List.pairwise_cons.2 ⟨fun z hz => ?_, i1⟩, fun k => by rw [find_cons, find_cons x, i2]⟩
      have hxy : less x.1 y.1 = true := by
        cases e3 : less x.1 y.1 with
        | true => rfl
        | false => exact absurd (o.tot _ _ (h1 y (List.mem_cons_self ..)) e3) e
      rcases List.mem_cons.1 (lastE_sub _ z hz) with rfl | hm
      · exact hxy
      · have hyz : less z.1 y.1 = false := (List.pairwise_cons.1 h2).1 z hm
        cases e4 : less x.1 z.1 with
        | true => rfl
        | false =>
          have := o.ntr (a := y.1) (b := z.1) (c := x.1) hyz e4
          rw [hxy] at this
          cases this

/-- The list with one pair more in its place. -/
def putP (less : κ → κ → Bool) (p : κ × Int) : Bool → List (κ × Int) → List (κ × Int)
  | done, [] => if done then [] else [p]
  | done, x :: r => (if !done && !(less x.1 p.1) then [p] else []) ++ ((if x.1 ≠ p.1 then [x] else []) ++ putP less p (done || !(less x.1 p.1)) r)
theorem putP_done (o : STO less) (p : κ × Int) : ∀ (l : List (κ × Int)), SUp less l → (∀ x ∈ l, less p.1 x.1 = true) → putP less p true l = l
  | [], _, _ => rfl
  | x :: r, h, hx => by
    have h0 := hx x (List.mem_cons_self ..)
    rw [putP]
    simp only [Bool.not_true, Bool.false_and, Bool.false_eq_true, if_false, List.nil_append, Bool.true_or]
    rw [if_pos (o.ne h0).symm, putP_done o p r (List.pairwise_cons.1 h).2 fun y hy => hx y (List.mem_cons_of_mem _ hy)]
    rfl
theorem putP_ok (o : STO less) (p : κ × Int) : ∀ (l : List (κ × Int)), SUp less l → SUp less (putP less p false l) ∧ (∀ x ∈ putP less p false l, x = p ∨ x ∈ l) ∧ ∀ k, find (putP less p false l) k = if p.1 = k then some p.2 else find l k
  | [], _ => ⟨List.pairwise_singleton .., fun x hx => .inl (by simpa [putP] using hx), fun k => by rw [show putP less p false [] = [p] from rfl, find_one, find_nil]⟩
  | x :: r, h => by
    obtain ⟨h1, h2⟩ := List.pairwise_cons.1 h
    obtain ⟨i1, i2, i3⟩ := putP_ok o p r h2
    cases e : less x.1 p.1 with
    | true =>
      have hne := o.ne e
      have he : putP less p false (x :: r) = x :: putP less p false r := by rw [putP]; simp [e, hne]
      rw [he]
      refine ⟨List.pairwise_cons.2 ⟨fun z hz => ?_, i1⟩, fun z hz => ?_, fun k => ?_⟩
      · rcases i2 z hz with rfl | hm
        · exact e
        · exact h1 z hm
      · rcases List.mem_cons.1 hz with rfl | hm
        · exact .inr (List.mem_cons_self ..)
        · rcases i2 z hm with c | c
          · exact .inl c
          · exact .inr (List.mem_cons_of_mem _ c)
      · rw [find_cons, find_cons, i3]
        by_cases hk : p.1 = k
        · simp [hk]
        · simp [hk]
    | false =>
      by_cases hx : x.1 = p.1
      · have hd := putP_done o p r h2 fun y hy => by rw [← hx]; exact h1 y hy
        have he : putP less p false (x :: r) = p :: r := by rw [putP, if_neg (show ¬ x.1 ≠ p.1 from fun h => h hx), e]; simp [hd]
        rw [he]
        refine ⟨List.pairwise_cons.2 ⟨fun z hz => by rw [← hx]; exact h1 z hz, h2⟩, fun z hz => ?_, fun k => ?_⟩
        · rcases List.mem_cons.1 hz with rfl | hm
          · exact .inl rfl
          · exact .inr (List.mem_cons_of_mem _ hm)
        · rw [find_cons, find_cons]
          by_cases hk : p.1 = k
          · rw [find_none_of fun z hz => by rw [← hk, ← hx]; exact (o.ne (h1 z hz)).symm]; simp [hk]
          · have hk2 : ¬ x.1 = k := by rw [hx]; exact hk
            simp [hk, hk2]
      · have hpx : less p.1 x.1 = true := by
          cases e2 : less p.1 x.1 with
          | true => rfl
          | false => exact absurd (o.tot _ _ e e2) hx
        have hd := putP_done o p r h2 fun y hy => o.tr _ _ _ hpx (h1 y hy)
        have he : putP less p false (x :: r) = p :: x :: r := by rw [putP]; simp [e, hx, hd]
        rw [he]
        refine ⟨List.pairwise_cons.2 ⟨fun z hz => ?_, h⟩, fun z hz => ?_, fun k => ?_⟩
        · rcases List.mem_cons.1 hz with rfl | hm
          · exact hpx
          · exact o.tr _ _ _ hpx (h1 z hm)
        · rcases List.mem_cons.1 hz with rfl | hm
          · exact .inl rfl
          · exact .inr hm
        · rw [find_cons]
          by_cases hk : p.1 = k
          · have : find (x :: r) k = none := find_none_of fun z hz => by
              rw [← hk]
              rcases List.mem_cons.1 hz with rfl | hm
              · exact (o.ne hpx).symm
              · exact (o.ne (o.tr _ _ _ hpx (h1 z hm))).symm
            rw [this]; simp [hk]
          · simp [hk]
def put (less : κ → κ → Bool) (l : List (κ × Int)) (p : κ × Int) : List (κ × Int) := putP less p false l
theorem putP_step (p x : κ × Int) (done : Bool) (acc r : List (κ × Int)) : acc ++ putP less p done (x :: r) = (acc ++ (if !done && !(less x.1 p.1) then [p] else []) ++ (if x.1 ≠ p.1 then [x] else [])) ++ putP less p (done || !(less x.1 p.1)) r := by
  rw [putP]; simp only [List.append_assoc]

/-- Each word once, with its last weight, by rising words. -/
def norm (less : κ → κ → Bool) (l : List (κ × Int)) : List (κ × Int) := l.foldl (put less) []
theorem fold_ok (o : STO less) : ∀ (l a : List (κ × Int)), SUp less a → SUp less (l.foldl (put less) a) ∧ ∀ k, find (l.foldl (put less) a) k = (find l k).or (find a k)
  | [], a, h => ⟨h, fun k => rfl⟩
  | x :: r, a, h => by
    obtain ⟨i1, _, i2⟩ := putP_ok o x a h
    obtain ⟨j1, j2⟩ := fold_ok o r (put less a x) i1
    refine ⟨j1, fun k => ?_⟩
    rw [List.foldl_cons, j2, find_cons, put, i2]
    cases find r k with
    | some v => rfl
    | none => by_cases hk : x.1 = k <;> simp [hk]
theorem norm_up (o : STO less) (l : List (κ × Int)) : SUp less (norm less l) := (fold_ok o l [] List.Pairwise.nil).1
theorem norm_find (o : STO less) (l : List (κ × Int)) (k : κ) : find (norm less l) k = find l k := by
  rw [norm, (fold_ok o l [] List.Pairwise.nil).2, find_nil]; cases find l k <;> rfl
theorem norm_of_stably (o : STO less) {l l' : List (κ × Int)} (h : Stably less l l') : lastE l' = norm less l := by
  obtain ⟨h1, h2⟩ := lastE_ok o l' h.1
  exact SUp.ext o h1 (norm_up o l) fun k => by rw [h2, norm_find o, h.find]
theorem norm_same (o : STO less) {l : List (κ × Int)} (h : SUp less l) : norm less l = l := SUp.ext o (norm_up o l) h fun k => norm_find o l k

theorem keep_find (o : STO less) {l : List (κ × Int)} (h : SUp less l) (k : κ) : find (keep l) k = (find l k).filter fun v => !(v == 0) := by
  cases e : find l k with
  | none =>
    refine find_none_of fun x hx hk => ?_
    have hm := (List.mem_filter.1 hx).1
    have := SUp.find_of_mem o h hm
    rw [hk, e] at this
    cases this
  | some v =>
    have hm := find_mem e
    by_cases h0 : v = 0
    · subst h0
      simp only [Option.filter]
      refine find_none_of fun x hx hk => ?_
      have hx2 := List.mem_filter.1 hx
      have := SUp.find_of_mem o h hx2.1
      rw [hk, e] at this
      simp only [Option.some.injEq] at this
      rw [← this] at hx2
      simp at hx2
    · have hmk : (k, v) ∈ keep l := List.mem_filter.2 ⟨hm, by simpa using h0⟩
      have := SUp.find_of_mem o (keep_up (less := less) h) hmk
      rw [this]
      simp [Option.filter, h0]
def merge (less : κ → κ → Bool) (a b : List (κ × Int)) : List (κ × Int) := keep (norm less (a ++ b))
theorem merge_up (o : STO less) (a b : List (κ × Int)) : SUp less (merge less a b) := keep_up (norm_up o _)
theorem merge_find (o : STO less) (a b : List (κ × Int)) (k : κ) : find (merge less a b) k = ((find b k).or (find a k)).filter fun v => !(v == 0) := by
  rw [merge, keep_find o (norm_up o _), norm_find o, find_append]

theorem find_map0 (a : List (κ × Int)) (k : κ) : find (a.map fun x => (x.1, (0 : Int))) k = (find a k).map fun _ => 0 := by
  induction a with
  | nil => rfl
  | cons x r ih =>
    rw [List.map_cons, find_cons, find_cons, ih]
    by_cases hk : x.1 = k
    · simp [hk]; cases find r k <;> rfl
    · simp [hk]
theorem dif_ok (o : STO less) (a b : List (κ × Int)) : SUp less a → SUp less b → SUp less (dif less a b) ∧ ∀ k, find (dif less a b) k = chg (find a k) (find b k) := by
  induction a, b using dif.induct (less := less) with
  | case1 y => intro _ h2; rw [dif_nil]; exact ⟨h2, fun k => by rw [find_nil]; cases find y k <;> rfl⟩
  | case2 x a ih =>
    intro h1 _
    rw [dif_end]
    refine ⟨?_, fun k => by rw [find_map0, find_nil]; cases find (x :: a) k <;> rfl⟩
    exact List.pairwise_map.2 h1
  | case3 x a y b c ih =>
    intro h1 h2
    obtain ⟨p1, p2⟩ := List.pairwise_cons.1 h1
    obtain ⟨i1, i2⟩ := ih p2 h2
    obtain ⟨q1, q2⟩ := List.pairwise_cons.1 h2
    have hb : ∀ z ∈ y :: b, less x.1 z.1 = true := fun z hz => by
      rcases List.mem_cons.1 hz with rfl | hm
      · exact c
      · exact o.tr _ _ _ c (q1 z hm)
    rw [dif_cons, if_pos c]
    refine ⟨List.pairwise_cons.2 ⟨dif_low x.1 a (y :: b) p1 hb, i1⟩, fun k => ?_⟩
    rw [find_cons, i2, find_cons x]
    by_cases hk : x.1 = k
    · rw [← hk, find_none_of (l := a) fun z hz => (o.ne (p1 z hz)).symm, find_none_of (l := y :: b) fun z hz => (o.ne (hb z hz)).symm]
      simp [chg]
    · simp [hk]
  | case4 x a y b c c2 ih =>
    intro h1 h2
    obtain ⟨p1, p2⟩ := List.pairwise_cons.1 h1
    obtain ⟨q1, q2⟩ := List.pairwise_cons.1 h2
    obtain ⟨i1, i2⟩ := ih h1 q2
    have ha : ∀ z ∈ x :: a, less y.1 z.1 = true := fun z hz => by
      rcases List.mem_cons.1 hz with rfl | hm
      · exact c2
      · exact o.tr _ _ _ c2 (p1 z hm)
    rw [dif_cons, if_neg c, if_pos c2]
    refine ⟨List.pairwise_cons.2 ⟨dif_low y.1 (x :: a) b ha q1, i1⟩, fun k => ?_⟩
    rw [find_cons y, i2, find_cons y b]
    by_cases hk : y.1 = k
    · rw [← hk, find_none_of (l := b) fun z hz => (o.ne (q1 z hz)).symm, find_none_of (l := x :: a) fun z hz => (o.ne (ha z hz)).symm]
      simp [chg]
    · simp [hk]
  | case5 x a y b c c2 c3 ih =>
    intro h1 h2
    obtain ⟨p1, p2⟩ := List.pairwise_cons.1 h1
    obtain ⟨q1, q2⟩ := List.pairwise_cons.1 h2
    obtain ⟨i1, i2⟩ := ih p2 q2
    have hxy : x.1 = y.1 := o.tot _ _ (by simpa using c) (by simpa using c2)
    rw [dif_cons, if_neg c, if_neg c2, if_pos c3]
    refine ⟨i1, fun k => ?_⟩
    rw [i2, find_cons x, find_cons y]
    by_cases hk : x.1 = k
    · rw [← hk, find_none_of (l := a) fun z hz => (o.ne (p1 z hz)).symm, find_none_of (l := b) fun z hz => by rw [hxy]; exact (o.ne (q1 z hz)).symm]
      simp [chg, hxy, c3]
    · have hk2 : ¬ y.1 = k := by rw [← hxy]; exact hk
      simp [hk, hk2]
  | case6 x a y b c c2 c3 ih =>
    intro h1 h2
    obtain ⟨p1, p2⟩ := List.pairwise_cons.1 h1
    obtain ⟨q1, q2⟩ := List.pairwise_cons.1 h2
    obtain ⟨i1, i2⟩ := ih p2 q2
    have hxy : x.1 = y.1 := o.tot _ _ (by simpa using c) (by simpa using c2)
    rw [dif_cons, if_neg c, if_neg c2, if_neg c3]
    refine ⟨List.pairwise_cons.2 ⟨dif_low y.1 a b (by rw [← hxy]; exact p1) q1, i1⟩, fun k => ?_⟩
    rw [find_cons, i2, find_cons x, find_cons y]
    by_cases hk : x.1 = k
    · rw [← hk, find_none_of (l := a) fun z hz => (o.ne (p1 z hz)).symm, find_none_of (l := b) fun z hz => by rw [hxy]; exact (o.ne (q1 z hz)).symm]
      simp [chg, hxy, c3]
    · have hk2 : ¬ y.1 = k := by rw [← hxy]; exact hk
      simp [hk, hk2]
def diff (less : κ → κ → Bool) (a b : List (κ × Int)) : List (κ × Int) := dif less (norm less a) (norm less b)
theorem diff_up (o : STO less) (a b : List (κ × Int)) : SUp less (diff less a b) := (dif_ok o _ _ (norm_up o a) (norm_up o b)).1
theorem diff_find (o : STO less) (a b : List (κ × Int)) (k : κ) : find (diff less a b) k = chg (find a k) (find b k) := by
  rw [diff, (dif_ok o _ _ (norm_up o a) (norm_up o b)).2, norm_find o, norm_find o]

theorem merge_diff (o : STO less) (a b : List (κ × Int)) (h0 : ∀ x ∈ norm less b, x.2 ≠ 0) : merge less a (diff less a b) = norm less b := by
  refine SUp.ext o (merge_up o _ _) (norm_up o _) fun k => ?_
  rw [merge_find o, diff_find o, norm_find o]
  have hb : ∀ v, find b k = some v → v ≠ 0 := fun v hv => h0 (k, v) (find_mem (by rw [norm_find o]; exact hv))
  cases e1 : find a k with
  | none =>
    cases e2 : find b k with
    | none => rfl
    | some w => have := hb w e2; simp [chg, Option.filter, this]
  | some v =>
    cases e2 : find b k with
    | none => simp [chg, Option.filter]
    | some w =>
      have := hb w e2
      by_cases hv : v = w
      · subst hv; simp [chg, Option.filter, this]
      · simp [chg, Option.filter, this, hv]
theorem merge_merge (o : STO less) (a b c : List (κ × Int)) : merge less (merge less a b) c = merge less a (b ++ c) := by
  refine SUp.ext o (merge_up o _ _) (merge_up o _ _) fun k => ?_
  rw [merge_find o, merge_find o, merge_find o, find_append]
  cases find c k with
  | some v => rfl
  | none =>
    simp only [Option.none_or]
    cases (find b k).or (find a k) with
    | none => rfl
    | some v => by_cases h : v = 0 <;> simp [Option.filter, h]
theorem merge_swap (o : STO less) (a : List (κ × Int)) (p q : κ × Int) (h : p.1 ≠ q.1) : merge less a [p, q] = merge less a [q, p] := by
  refine SUp.ext o (merge_up o _ _) (merge_up o _ _) fun k => ?_
  rw [merge_find o, merge_find o, find_cons p [q], find_cons q [p], find_one, find_one]
  by_cases h1 : p.1 = k
  · have h2 : ¬ q.1 = k := fun e => h (h1.trans e.symm)
    simp [h1, h2]
  · simp [h1]
end Go.Proofs.Ytmpfcdffpjocnaa.Pm
