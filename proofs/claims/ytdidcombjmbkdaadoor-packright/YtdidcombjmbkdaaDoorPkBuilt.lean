/- Machines that are built are right. No program is named here. -/
import Derived.Test.YtdidcombjmbkdaaDoorPkMath
import Derived.Test.YtdidcombjmbkdaaDoorFRefM
namespace Go.Proofs.YtdidcombjmbkdaaDoor.Pk
open Go.Proofs.YtdidcombjmbkdaaDoor.Nums Go.Proofs.YtdidcombjmbkdaaDoor.Fm

def ofArc (a : Arc) : RArc := ⟨a.label, a.out, a.to⟩
def ofSt (s : St) : RSt := ⟨s.final, s.out, s.arcs.map ofArc⟩
theorem ofArc_inj {a c : Arc} (h : ofArc a = ofArc c) : a = c := by
  cases a; cases c
  simp only [ofArc, RArc.mk.injEq] at h
  obtain ⟨h1, h2, h3⟩ := h
  simp only [Arc.mk.injEq]
  exact ⟨h1, h2, by omega⟩
theorem ofArcs_inj : ∀ {l m : List Arc}, l.map ofArc = m.map ofArc → l = m
  | [], [], _ => rfl
  | [], _ :: _, h => by simp at h
  | _ :: _, [], h => by simp at h
  | a :: l, c :: m, h => by
    simp only [List.map_cons, List.cons.injEq] at h
    rw [ofArc_inj h.1, ofArcs_inj h.2]
theorem ofSt_inj {s t : St} (h : ofSt s = ofSt t) : s = t := by
  cases s; cases t
  simp only [ofSt, RSt.mk.injEq] at h
  obtain ⟨h1, h2, h3⟩ := h
  rw [h1, h2, ofArcs_inj h3]
/-- Their numbers. -/
theorem refA_vis {f : Nat} (ih : ∀ (D : List (List En)) (b : List St) (S : List En), Inv D b → Fm.Good f S →
      ((refF f D b S).2.1 = b ∧ (refF f D b S).2.2 < b.length) ∨ ((refF f D b S).2.2 + 1 = (refF f D b S).2.1.length ∧ b.length ≤ (refF f D b S).2.2 ∧ b <+: (refF f D b S).2.1 ∧ ∀ M, (refF f D b S).2.1 <+: M → ∀ F, f ≤ F → vis8 (M.map ofSt) F (refF f D b S).2.2 b.length = some (refF f D b S).2.1.length)) :
    ∀ (gs : List (Int × List En)) (D : List (List En)) (b : List St), Inv D b → (∀ p ∈ gs, Fm.Good f p.2) → b <+: (refA (refF f) D b gs).2.1 ∧ ∀ M, (refA (refF f) D b gs).2.1 <+: M → ∀ F, f ≤ F → vArcs (vis8 (M.map ofSt) F) ((refA (refF f) D b gs).2.2.map ofArc) b.length = some (refA (refF f) D b gs).2.1.length
  | [], D, b, _, _ => ⟨List.prefix_refl _, fun M _ F _ => rfl⟩
  | (c, G) :: r, D, b, hI, hG => by
    have hGG := hG (c, G) (by simp)
    obtain ⟨e1, e2⟩ := ref_st f D b G hI hGG
    have e2' : Inv (refF f D b G).1 (refF f D b G).2.1 := by rw [e1]; exact e2
    obtain ⟨p1, p2⟩ := refA_vis ih r (refF f D b G).1 (refF f D b G).2.1 e2' (fun p hp => hG p (by simp [hp]))
    rw [refA]
    simp only [List.map_cons]
    rcases ih D b G hI hGG with ⟨h1, h2⟩ | ⟨h1, h2, h3, h4⟩
    · rw [h1] at p1 p2 ⊢
      refine ⟨p1, fun M hM F hF => ?_⟩
      rw [vArcs, if_neg (by simp only [ofArc]; omega)]
      exact p2 M hM F hF
    · refine ⟨h3.trans p1, fun M hM F hF => ?_⟩
      rw [vArcs, if_pos (by simp only [ofArc]; omega)]
      have := h4 M (p1.trans hM) F hF
      simp only [ofArc, Int.toNat_natCast]
      rw [this]
      exact p2 M hM F hF
theorem refF_vis : ∀ (f : Nat) (D : List (List En)) (b : List St) (S : List En), Inv D b → Fm.Good f S →
      ((refF f D b S).2.1 = b ∧ (refF f D b S).2.2 < b.length) ∨ ((refF f D b S).2.2 + 1 = (refF f D b S).2.1.length ∧ b.length ≤ (refF f D b S).2.2 ∧ b <+: (refF f D b S).2.1 ∧ ∀ M, (refF f D b S).2.1 <+: M → ∀ F, f ≤ F → vis8 (M.map ofSt) F (refF f D b S).2.2 b.length = some (refF f D b S).2.1.length)
  | 0, _, _, S, _, h => by
    obtain ⟨h0, _, h2⟩ := h
    cases S with
    | nil => exact absurd rfl h0
    | cons e r => exact absurd (h2 e (by simp)) (by omega)
  | f + 1, D, b, S, hI, hG => by
    rw [refF]
    by_cases hm : level S ∈ D
    · rw [if_pos hm]
      refine .inl ⟨rfl, ?_⟩
      have := List.idxOf_lt_length_of_mem hm
      simp only
      rw [← hI.len]
      exact this
    · rw [if_neg hm]
      have hGl : Fm.Good (f + 1) (level S) := ⟨level_ne.2 hG.1, by unfold Rise level shift; rw [List.pairwise_map]; exact hG.2.1, fun e he => by
        obtain ⟨x, hx, rfl⟩ := List.mem_map.1 he
        exact hG.2.2 x hx⟩
      obtain ⟨p1, p2⟩ := refA_vis (refF_vis f) (grp (restOf (level S))) D b hI (good_groups hGl)
      generalize refA (refF f) D b (grp (restOf (level S))) = q at p1 p2
      obtain ⟨D1, b1, acc⟩ := q
      simp only at p1 p2 ⊢
      refine .inr ⟨by simp, p1.length_le, p1.trans (List.prefix_append _ _), fun M hM F hF => ?_⟩
      obtain ⟨F', rfl⟩ : ∃ F', F = F' + 1 := ⟨F - 1, by omega⟩
      have hn : (M.map ofSt).getD b1.length ⟨false, 0, []⟩ = ofSt ⟨finOf S, outOf (level S), acc⟩ := by
        obtain ⟨t, rfl⟩ := hM
        simp [List.getD_eq_getElem?_getD]
      rw [vis8, hn]
      have := p2 M ((List.prefix_append _ _).trans hM) F' (by omega)
      show Option.bind (vArcs (vis8 (M.map ofSt) F') (acc.map ofArc) b.length) _ = _
      rw [this]
      simp
/-- What words behind come to. -/
def mxL : List En → Int
  | [] => 0
  | e :: r => max (e.1.length : Int) (mxL r)
def mxW : List En → Int
  | [] => 0
  | e :: r => max e.2 (mxW r)
theorem mxL_nn : ∀ l : List En, 0 ≤ mxL l
  | [] => Int.le_refl _
  | e :: r => by rw [mxL]; have := mxL_nn r; omega
theorem mxW_nn : ∀ l : List En, 0 ≤ mxW l
  | [] => Int.le_refl _
  | e :: r => by rw [mxW]; have := mxW_nn r; omega
theorem mxL_append : ∀ a b : List En, mxL (a ++ b) = max (mxL a) (mxL b)
  | [], b => by have := mxL_nn b; simp only [List.nil_append, mxL]; omega
  | e :: r, b => by rw [List.cons_append, mxL, mxL, mxL_append r b]; omega
theorem mxW_append : ∀ a b : List En, mxW (a ++ b) = max (mxW a) (mxW b)
  | [], b => by have := mxW_nn b; simp only [List.nil_append, mxW]; omega
  | e :: r, b => by rw [List.cons_append, mxW, mxW, mxW_append r b]; omega
theorem mxL_le : ∀ (l : List En) (n : Int), 0 ≤ n → (∀ e ∈ l, (e.1.length : Int) ≤ n) → mxL l ≤ n
  | [], n, h, _ => h
  | e :: r, n, h, hl => by
    rw [mxL]
    have := mxL_le r n h fun x hx => hl x (by simp [hx])
    have := hl e (by simp)
    omega
theorem mxW_le : ∀ (l : List En) (n : Int), 0 ≤ n → (∀ e ∈ l, e.2 ≤ n) → mxW l ≤ n
  | [], n, h, _ => h
  | e :: r, n, h, hl => by
    rw [mxW]
    have := mxW_le r n h fun x hx => hl x (by simp [hx])
    have := hl e (by simp)
    omega
theorem mxL_pre (c n : Int) : ∀ l : List En, l ≠ [] → mxL ((shift n l).map (pre c)) = mxL l + 1
  | [e], _ => by
    simp only [shift, pre, List.map_cons, List.map_nil, mxL, List.length_cons]
    omega
  | e :: x :: r, _ => by
    have ih := mxL_pre c n (x :: r) (by simp)
    have e1 : (shift n (e :: x :: r)).map (pre c) = (c :: e.1, e.2 + n) :: (shift n (x :: r)).map (pre c) := rfl
    have e2 : mxL (e :: x :: r) = max (e.1.length : Int) (mxL (x :: r)) := rfl
    rw [e1, mxL, ih, e2]
    simp only [List.length_cons]
    omega
theorem mxW_pre (c n : Int) (hn : 0 ≤ n) : ∀ l : List En, l ≠ [] → (∀ e ∈ l, 0 ≤ e.2) → mxW ((shift n l).map (pre c)) = n + mxW l
  | [e], _, h => by
    have := h e (by simp)
    simp only [shift, pre, List.map_cons, List.map_nil, mxW]
    omega
  | e :: x :: r, _, h => by
    have ih := mxW_pre c n hn (x :: r) (by simp) (fun y hy => h y (by simp only [List.mem_cons] at hy ⊢; exact .inr hy))
    have e1 : (shift n (e :: x :: r)).map (pre c) = (c :: e.1, e.2 + n) :: (shift n (x :: r)).map (pre c) := rfl
    have e2 : mxW (e :: x :: r) = max e.2 (mxW (x :: r)) := rfl
    rw [e1, mxW, ih, e2]
    simp only
    omega
def rchOf (R : List En) : Reach := ⟨mxL R, R.length, mxW R⟩
theorem beh_arcs (D : List (List En)) (known : List Reach) (hk : ∀ (j : Nat) (R : List En), D[j]? = some R → known[j]? = some (rchOf R)) (hD : ∀ R ∈ D, R ≠ [] ∧ ∀ e ∈ R, 0 ≤ e.2) :
    ∀ (l : List Arc) (T : List En), (∀ a ∈ l, a.to < D.length ∧ 0 ≤ a.out ∧ a.out ≤ 1048576) → (l.map ofArc).foldl (stepR known) (rchOf T) = rchOf (T ++ flat (outs D l))
  | [], T, _ => by simp [outs, flat]
  | a :: l, T, h => by
    obtain ⟨h1, h2, h3⟩ := h a (by simp)
    have hR : D[a.to]? = some D[a.to] := List.getElem?_eq_getElem h1
    obtain ⟨g1, g2⟩ := hD _ (List.getElem_mem h1)
    have hkn := hk _ _ hR
    have hstep : stepR known (rchOf T) (ofArc a) = rchOf (T ++ (shift a.out D[a.to]).map (pre a.label)) := by
      unfold stepR rchOf
      simp only [ofArc, Int.toNat_natCast, List.getD_eq_getElem?_getD, hkn, Option.getD_some, rchOf]
      rw [mxL_append, mxW_append, mxL_pre _ _ _ g1, mxW_pre _ _ h2 _ g1 g2]
      simp only [Reach.mk.injEq, List.length_append, List.length_map]
      refine ⟨trivial, ?_, ?_⟩
      · simp [shift]
      · congr 1
        omega
    rw [List.map_cons, List.foldl_cons, hstep, beh_arcs D known hk hD l _ (fun x hx => h x (by simp [hx]))]
    congr 1
    simp only [outs, flat, List.map_cons, List.flatMap_cons, hR, Option.getD_some, List.append_assoc]
theorem beh_exp {D : List (List En)} {known : List Reach} (hk : ∀ (j : Nat) (R : List En), D[j]? = some R → known[j]? = some (rchOf R)) (hD : ∀ R ∈ D, R ≠ [] ∧ ∀ e ∈ R, 0 ≤ e.2) {s : St} (h : ∀ a ∈ s.arcs, a.to < D.length ∧ 0 ≤ a.out ∧ a.out ≤ 1048576) (ho : s.final = true → 0 ≤ s.out) : behR (ofSt s) known = rchOf (exp D s) := by
  unfold behR exp
  have e1 : (if (ofSt s).final then (⟨0, 1, (ofSt s).out⟩ : Reach) else ⟨0, 0, 0⟩) = rchOf (fins s) := by
    show (if s.final then (⟨0, 1, s.out⟩ : Reach) else ⟨0, 0, 0⟩) = _
    unfold fins rchOf
    cases hf : s.final with
    | false => rfl
    | true =>
      have := ho hf
      simp only [if_true, mxL, mxW, List.length_nil, List.length_singleton, Reach.mk.injEq]
      omega
  rw [e1]
  exact beh_arcs D known hk hD s.arcs (fins s) h
theorem exp_take {D : List (List En)} {s : St} {i : Nat} (h : ∀ a ∈ s.arcs, a.to < i) (hi : i ≤ D.length) : exp D s = exp (D.take i) s :=
  exp_pre (List.take_prefix i D) (fun a ha => by rw [List.length_take]; have := h a ha; omega)
/-- What is known of a dictionary's rests. -/
structure Rests (base : Int) (D : List (List En)) : Prop where
  ne : ∀ R ∈ D, R ≠ []
  nn : ∀ R ∈ D, ∀ e ∈ R, 0 ≤ e.2
  ln : ∀ R ∈ D, ∀ e ∈ R, e.1.length ≤ 24
  few : ∀ R ∈ D, R.length ≤ 4096
  wt : ∀ R ∈ D, ∀ e ∈ R, e.2 ≤ 1048576 - base
  rn : ∀ R ∈ D, ∀ e ∈ R, ∀ c ∈ e.1, wordR c = true
  lo : 1 ≤ base
  hi : base ≤ 1048576
theorem arc_in {D : List (List En)} {s : St} {a : Arc} (ha : a ∈ s.arcs) (ht : a.to < D.length) {e : En} (he : e ∈ D[a.to]) : (a.label :: e.1, e.2 + a.out) ∈ exp D s := by
  unfold exp
  refine List.mem_append.2 (.inr ?_)
  unfold flat outs
  refine List.mem_flatMap.2 ⟨(a.label, shift a.out (D[a.to]?.getD [])), List.mem_map.2 ⟨a, ha, rfl⟩, ?_⟩
  rw [List.getElem?_eq_getElem ht]
  exact List.mem_map.2 ⟨(e.1, e.2 + a.out), List.mem_map.2 ⟨e, he, rfl⟩, rfl⟩
theorem arc_facts {base : Int} {D : List (List En)} {b : List St} (hI : Inv D b) (hR : Rests base D) {i : Nat} {s : St} (hi : b[i]? = some s) : ∀ a ∈ s.arcs, a.to < i ∧ 0 ≤ a.out ∧ a.out ≤ 1048576 ∧ wordR a.label = true := fun a ha => by
  obtain ⟨e1, e2, e3⟩ := hI.row i s hi
  have ht := e3.to a ha
  have hne := hR.ne _ (List.getElem_mem ht)
  obtain ⟨e, he⟩ := List.exists_mem_of_ne_nil _ hne
  have hin := arc_in ha ht he
  have hD := List.mem_of_getElem? e1
  have h1 := hR.wt _ hD _ hin
  have h2 := hR.rn _ hD _ hin a.label (by simp)
  have h3 := hR.nn _ (List.getElem_mem ht) e he
  have h4 := hR.lo
  obtain ⟨_, h5, _⟩ := state_level hI hi
  have := h5 a ha
  simp only at h1
  exact ⟨e2 a ha, by omega, by omega, h2⟩
theorem bnd_inv {base : Int} {D : List (List En)} {b : List St} (hI : Inv D b) (hR : Rests base D) : ∀ (n : Nat), n ≤ b.length → bndB base ((D.take (b.length - n)).map rchOf) ((b.drop (b.length - n)).map ofSt) = true
  | 0, _ => by simp [bndB]
  | n + 1, hn => by
    have ih := bnd_inv hI hR n (by omega)
    obtain ⟨i, hi⟩ : ∃ i, i = b.length - (n + 1) := ⟨_, rfl⟩
    have hi1 : b.length - n = i + 1 := by omega
    rw [hi1] at ih
    rw [← hi]
    have hil : i < b.length := by omega
    obtain ⟨s, hs⟩ : ∃ s, b[i]? = some s := ⟨b[i], List.getElem?_eq_getElem hil⟩
    obtain ⟨e1, e2, e3⟩ := hI.row i s hs
    have hdr : b.drop i = s :: b.drop (i + 1) := by rw [List.drop_eq_getElem_cons hil]; congr 1; rw [List.getElem?_eq_getElem hil] at hs; exact Option.some.inj hs
    have hiD : i ≤ D.length := by have := hI.len; omega
    obtain ⟨l1, l2, l3⟩ := state_level hI hs
    have hbe : behR (ofSt s) ((D.take i).map rchOf) = rchOf (exp D s) := by
      rw [exp_take e2 hiD]
      refine beh_exp (fun j R hj => by rw [List.getElem?_map, hj]; rfl) (fun R hR' => ?_) (fun a ha => ?_) l1
      · have := List.mem_of_mem_take hR'
        exact ⟨hR.ne R this, hR.nn R this⟩
      · obtain ⟨a1, a2, a3, _⟩ := arc_facts hI hR hs a ha
        exact ⟨by rw [List.length_take]; omega, a2, a3⟩
    have hD := List.mem_of_getElem? e1
    have htk : D.take (i + 1) = D.take i ++ [exp D s] := by rw [List.take_add_one, e1]; rfl
    rw [hdr, List.map_cons, bndB, hbe]
    have hok : okR base (rchOf (exp D s)) = true := by
      unfold okR rchOf
      have h1 := mxL_le (exp D s) 24 (by omega) (fun e he => by have := hR.ln _ hD e he; omega)
      have h2 := hR.few _ hD
      have h3 := mxW_le (exp D s) (1048576 - base) (by have := hR.hi; omega) (fun e he => hR.wt _ hD e he)
      simp only [decide_eq_true_eq]
      omega
    rw [hok, Bool.true_and]
    rw [htk, List.map_append] at ih
    exact ih
theorem minF_le : ∀ (l : List RArc) (m : Int), minF m l ≤ m ∧ ∀ a ∈ l, minF m l ≤ a.out
  | [], m => ⟨Int.le_refl _, fun a ha => by cases ha⟩
  | a :: r, m => by
    obtain ⟨h1, h2⟩ := minF_le r (min m a.out)
    rw [minF]
    refine ⟨by omega, fun x hx => ?_⟩
    rcases List.mem_cons.1 hx with rfl | hx
    · omega
    · exact h2 x hx
theorem minF_nn : ∀ (l : List RArc) (m : Int), 0 ≤ m → (∀ a ∈ l, 0 ≤ a.out) → 0 ≤ minF m l
  | [], m, h, _ => h
  | a :: r, m, h, hl => by
    rw [minF]
    have := hl a (by simp)
    exact minF_nn r _ (by omega) fun x hx => hl x (by simp [hx])
theorem ord_of : ∀ (l : List RArc) (n : Int) (p : Option Int), l.Pairwise (fun a c => a.label < c.label) → (∀ a ∈ l, wordR a.label = true ∧ 0 ≤ a.to ∧ a.to < n) → (∀ q, p = some q → ∀ a ∈ l, q < a.label) → ordB n p l = true
  | [], _, _, _, _, _ => rfl
  | a :: r, n, p, hp, ha, hq => by
    obtain ⟨h1, h2⟩ := List.pairwise_cons.1 hp
    obtain ⟨g1, g2, g3⟩ := ha a (by simp)
    have hany : (p.any fun q => decide (a.label ≤ q)) = false := by
      cases p with
      | none => rfl
      | some q =>
        have := hq q rfl a (by simp)
        simp only [Option.any_some, decide_eq_false_iff_not]
        omega
    rw [ordB, hany, g1, decide_eq_true ⟨g2, g3⟩]
    simp only [Bool.not_false, Bool.true_and]
    exact ord_of r n _ h2 (fun x hx => ha x (by simp [hx])) (fun q hq' x hx => by cases hq'; exact h1 x hx)
theorem form_of : ∀ (l : List RSt) (i : Nat), (∀ (j : Nat) (s : RSt), l[j]? = some s → formS s (i + j) = true) → formB i l = true
  | [], _, _ => rfl
  | s :: r, i, h => by
    have h0 := h 0 s rfl
    rw [Nat.add_zero] at h0
    rw [formB, h0, Bool.true_and]
    exact form_of r (i + 1) fun j t hj => by have := h (j + 1) t (by simpa using hj); rwa [show i + (j + 1) = i + 1 + j by omega] at this
theorem form_inv {base : Int} {D : List (List En)} {b : List St} (hI : Inv D b) (hR : Rests base D) : formB 0 (b.map ofSt) = true := by
  refine form_of _ _ fun j t hj => ?_
  rw [List.getElem?_map] at hj
  obtain ⟨s, hs, rfl⟩ := Option.map_eq_some_iff.1 hj
  rw [Nat.zero_add]
  obtain ⟨e1, e2, e3⟩ := hI.row j s hs
  obtain ⟨l1, l2, l3⟩ := state_level hI hs
  have hf := arc_facts hI hR hs
  have h1 : ((ofSt s).final || decide ((ofSt s).out = 0)) = true := by
    show (s.final || decide (s.out = 0)) = true
    cases hfi : s.final with
    | true => rfl
    | false => simp [e3.fin hfi]
  have h2 : leastS (ofSt s) = 0 := by
    show minF (if s.final then s.out else 9223372036854775807) (s.arcs.map ofArc) = 0
    have hm : ∀ a ∈ s.arcs.map ofArc, 0 ≤ a.out := fun a ha => by
      obtain ⟨x, hx, rfl⟩ := List.mem_map.1 ha
      exact (hf x hx).2.1
    have hm0 : 0 ≤ (if s.final then s.out else 9223372036854775807 : Int) := by
      cases hfi : s.final with
      | true => rw [if_pos rfl]; exact l1 hfi
      | false => rw [if_neg (by decide)]; decide
    obtain ⟨q1, q2⟩ := minF_le (s.arcs.map ofArc) (if s.final then s.out else 9223372036854775807)
    have q3 := minF_nn (s.arcs.map ofArc) (if s.final then s.out else 9223372036854775807) hm0 hm
    rcases l3 with ⟨f1, f2⟩ | ⟨a, ha, f2⟩
    · rw [f1, if_pos rfl, f2] at q1 q3 ⊢
      omega
    · have := q2 (ofArc a) (List.mem_map.2 ⟨a, ha, rfl⟩)
      simp only [ofArc] at this
      omega
  have h3 : ordB j none (ofSt s).arcs = true := by
    simp only [ofSt]
    refine ord_of _ _ _ ?_ (fun a ha => ?_) (fun q hq => by cases hq)
    · rw [List.pairwise_map]
      exact e3.lab
    · obtain ⟨x, hx, rfl⟩ := List.mem_map.1 ha
      obtain ⟨a1, a2, a3, a4⟩ := hf x hx
      simp only [ofArc]
      exact ⟨a4, by omega, by omega⟩
  unfold formS
  rw [h1, h2, h3]
  rfl
end Go.Proofs.YtdidcombjmbkdaaDoor.Pk
