/- Texts that were written apart, joined. -/
import Derived.Test.YtllmdfkiogmofaaGreatDoorJ5
import Derived.Test.YtllmdfkiogmofaaGreatDoorJ4
import Derived.Test.YtllmdfkiogmofaaGreatDoorJ3
/- What is made: the states of levelled rests, each once. No program is named here. -/
namespace Go.Proofs.YtllmdfkiogmofaaGreatDoor.Fm
open Go.Proofs.YtllmdfkiogmofaaGreatDoor.Nums

/-- Levelled rests behind beginnings of words. -/
inductive Sub : List En → List En → Prop
  | here (S : List En) : Sub S (level S)
  | step {S R : List En} {p : Int × List En} : p ∈ grp (restOf S) → Sub p.2 R → Sub S R
/-- What making a state gives. -/
structure Mkd (D : List (List En)) (S : List En) (b : List St) (r : List St × Nat) (D' : List (List En)) : Prop where
  inv : Inv D' r.1
  ext : D <+: D'
  num : D'[r.2]? = some (level S)
  old : ∀ i, D[i]? = some (level S) → r = (b, i) ∧ D' = D
  sub : ∀ R ∈ D', R ∈ D ∨ Sub S R
  all : ∀ R, Sub S R → R ∈ D'
/-- Good rests. -/
def Good (f : Nat) (S : List En) : Prop := S ≠ [] ∧ Rise S ∧ ∀ e ∈ S, e.1.length < f
structure MkdAll (base : Int) (D : List (List En)) (gs : List (Int × List En)) (b : List St) (r : List St × List Arc) (D' : List (List En)) : Prop where
  inv : Inv D' r.1
  ext : D <+: D'
  outs : outs D' r.2 = gs.map fun p => (p.1, shift (-base) p.2)
  to : ∀ a ∈ r.2, a.to < D'.length
  old : (∀ p ∈ gs, level p.2 ∈ D) → r.1 = b ∧ D' = D
  sub : ∀ R ∈ D', R ∈ D ∨ ∃ p ∈ gs, Sub p.2 R
  all : ∀ p ∈ gs, ∀ R, Sub p.2 R → R ∈ D'
theorem arF_spec {f : Nat} {base : Int} (ih : ∀ (D : List (List En)) (b : List St) (S : List En), Inv D b → Good f S → ∃ D', Mkd D S b (stF f b S) D') :
    ∀ (gs : List (Int × List En)) (D : List (List En)) (b : List St), Inv D b → (∀ p ∈ gs, Good f p.2) → ∃ D', MkdAll base D gs b (arF (stF f) base b gs) D'
  | [], D, b, hI, _ => ⟨D, hI, List.prefix_refl _, rfl, fun a ha => by simp [arF] at ha, fun _ => ⟨rfl, rfl⟩, fun R hR => .inl hR, fun p hp => by cases hp⟩
  | (c, G) :: r, D, b, hI, hG => by
    have hGG := hG (c, G) (by simp)
    obtain ⟨D1, M1⟩ := ih D b G hI hGG
    obtain ⟨D2, M2⟩ := arF_spec ih r D1 (stF f b G).1 M1.inv (fun p hp => hG p (by simp [hp]))
    have hlt : (stF f b G).2 < D1.length := (List.getElem?_eq_some_iff.1 M1.num).1
    refine ⟨D2, ?_⟩
    rw [arF]
    refine ⟨M2.inv, M1.ext.trans M2.ext, ?_, fun a ha => ?_, fun h => ?_, fun R hR => ?_, fun p hp R hR => ?_⟩
    · have h2 := M2.outs
      simp only [Fm.outs, List.map_cons] at h2 ⊢
      rw [h2, pre_get M2.ext hlt, M1.num, Option.getD_some, shift_level]
      congr 3
      omega
    · rcases List.mem_cons.1 ha with rfl | ha
      · exact Nat.lt_of_lt_of_le hlt M2.ext.length_le
      · exact M2.to a ha
    · obtain ⟨i, hi⟩ := List.mem_iff_getElem?.1 (h (c, G) (by simp))
      obtain ⟨e1, e2⟩ := M1.old i hi
      subst e2
      obtain ⟨e3, e4⟩ := M2.old fun p hp => h p (by simp [hp])
      exact ⟨by simp only; rw [e3, e1], e4⟩
    · rcases M2.sub R hR with h | ⟨p, hp, h⟩
      · rcases M1.sub R h with h | h
        · exact .inl h
        · exact .inr ⟨(c, G), by simp, h⟩
      · exact .inr ⟨p, by simp [hp], h⟩
    · rcases List.mem_cons.1 hp with rfl | hp
      · exact M2.ext.subset (M1.all R hR)
      · exact M2.all p hp R hR
theorem good_groups {f : Nat} {S : List En} (h : Good (f + 1) S) : ∀ p ∈ grp (restOf S), Good f p.2 := fun p hp => by
  obtain ⟨h0, hr, hl⟩ := h
  obtain ⟨h1, h2⟩ := rise_rest hr
  have hsub : ∀ e ∈ restOf S, e ∈ S := fun e he => by
    cases S with
    | nil => exact he
    | cons x r =>
      obtain ⟨a, n⟩ := x
      cases a with
      | nil => exact .tail _ he
      | cons c t => exact he
  refine ⟨grp_ne _ _ (Nat.le_refl _) p hp, grp_rise _ _ (Nat.le_refl _) h2 h1 p hp, fun e he => ?_⟩
  have := hl _ (hsub _ (grp_mem h2 hp he))
  simp only [pre, List.length_cons] at this
  omega
theorem fins_shift (S : List En) (arcs : List Arc) : shift (-least S) S = fins ⟨finOf S, outOf S, arcs⟩ ++ shift (-least S) (restOf S) := by
  cases S with
  | nil => rfl
  | cons e r =>
    obtain ⟨x, n⟩ := e
    cases x with
    | nil => simp only [finOf, outOf, fins, restOf, shift, if_true, List.map_cons, List.cons_append, List.nil_append, Int.sub_eq_add_neg]
    | cons c t => rfl
theorem outs_labels {D : List (List En)} {arcs : List Arc} {gs : List (Int × List En)} {n : Int} (h : outs D arcs = gs.map fun p => (p.1, shift n p.2)) (hp : gs.Pairwise fun p q => p.1 < q.1) : arcs.Pairwise fun a b => a.label < b.label := by
  have h2 : (outs D arcs).map (·.1) = gs.map (·.1) := by rw [h, List.map_map]; rfl
  have h3 : (outs D arcs).map (·.1) = arcs.map (·.label) := by unfold outs; rw [List.map_map]; rfl
  rw [h3] at h2
  have h4 : (gs.map (·.1)).Pairwise (· < ·) := by rw [List.pairwise_map]; exact hp
  rw [← h2, List.pairwise_map] at h4
  exact h4
theorem stF_spec : ∀ (f : Nat) (D : List (List En)) (b : List St) (S : List En), Inv D b → Good f S → ∃ D', Mkd D S b (stF f b S) D'
  | 0, _, _, S, _, h => by
    obtain ⟨h0, _, h2⟩ := h
    cases S with
    | nil => exact absurd rfl h0
    | cons e r => exact absurd (h2 e (by simp)) (by omega)
  | f + 1, D, b, S, hI, hG => by
    obtain ⟨hr1, hr2⟩ := rise_rest hG.2.1
    have hgg := good_groups hG
    have hfl := flat_grp _ (restOf S) (Nat.le_refl _) hr2
    have hlab := (grp_labels _ (restOf S) (Nat.le_refl _) hr2 hr1).1
    obtain ⟨D1, M⟩ := arF_spec (base := least S) (stF_spec f) (grp (restOf S)) D b hI hgg
    rw [stF]
    generalize arF (stF f) (least S) b (grp (restOf S)) = q at M
    obtain ⟨b1, arcs⟩ := q
    simp only at M ⊢
    obtain ⟨s, hs⟩ : ∃ s : St, s = ⟨finOf S, outOf S, arcs⟩ := ⟨_, rfl⟩
    rw [← hs]
    have hcan : Canon D1 s := by
      rw [hs]
      refine ⟨outs_labels M.outs hlab, M.to, fun h => ?_⟩
      cases S with
      | nil => rfl
      | cons e r =>
        obtain ⟨x, n⟩ := e
        cases x with
        | nil => cases h
        | cons c t => rfl
    have hexp : exp D1 s = level S := by
      rw [exp, level, fins_shift S arcs, hs, M.outs, ← flat_shift, hfl]
    have hlen : D1.length = b1.length := M.inv.len
    have hold : ∀ i, D[i]? = some (level S) → b1 = b ∧ D1 = D ∧ b[i]? = some s := fun i hi => by
      have hil := (List.getElem?_eq_some_iff.1 hi).1
      obtain ⟨t, ht⟩ : ∃ t, b[i]? = some t := ⟨b[i]'(by have := hI.len; omega), List.getElem?_eq_getElem _⟩
      obtain ⟨e1, e2, ct⟩ := hI.row i t ht
      rw [hi] at e1
      have e1' : level S = exp D t := Option.some.inj e1
      obtain ⟨g1, g2⟩ := exp_grp hI.lv ct
      rw [← e1', level, restOf_shift, grp_shift] at g2
      have hall : ∀ p ∈ grp (restOf S), level p.2 ∈ D := fun p hp => by
        have hp' : (p.1, shift (-least S) p.2) ∈ outs D t.arcs := by rw [← g2]; exact List.mem_map.2 ⟨p, hp, rfl⟩
        obtain ⟨a, ha, hae⟩ := List.mem_map.1 hp'
        have hal := ct.to a ha
        rw [List.getElem?_eq_getElem hal] at hae
        simp only [Option.getD_some, Prod.mk.injEq] at hae
        have hv := hI.lv _ (List.getElem_mem hal)
        have : level p.2 = D[a.to] := by
          rw [← level_shift (-least S) (hgg p hp).1, ← hae.2, level_shift _ hv.1, level_of hv.2]
        rw [this]
        exact List.getElem_mem _
      obtain ⟨h1, h2⟩ := M.old hall
      refine ⟨h1, h2, ?_⟩
      rw [h2] at hexp hcan
      rw [ht, exp_inj hI.nd hI.lv ct hcan (e1'.symm.trans hexp.symm)]
    unfold numSt
    by_cases hmem : s ∈ b1
    · rw [if_pos hmem]
      have hidx := List.idxOf_lt_length_of_mem hmem
      have hat : b1[b1.idxOf s]? = some s := by rw [List.getElem?_eq_getElem hidx, List.getElem_idxOf]
      obtain ⟨e1, _, _⟩ := M.inv.row _ s hat
      rw [hexp] at e1
      refine ⟨D1, M.inv, M.ext, e1, fun i hi => ?_, fun R hR => ?_, fun R hR => ?_⟩
      · obtain ⟨h1, h2, h3⟩ := hold i hi
        refine ⟨?_, h2⟩
        subst h1
        rw [h2] at e1
        have hi2 := (List.getElem?_eq_some_iff.1 hi).1
        have hi3 := (List.getElem?_eq_some_iff.1 e1).1
        have : b1.idxOf s = i := nodup_getD hI.nd hi3 hi2 (by rw [e1, hi])
        rw [this]
      · rcases M.sub R hR with h | ⟨p, hp, h⟩
        · exact .inl h
        · exact .inr (.step hp h)
      · cases hR with
        | here => exact List.mem_of_getElem? e1
        | step hp h => exact M.all _ hp R h
    · rw [if_neg hmem]
      have hnew : level S ∉ D1 := fun h => by
        obtain ⟨j, hj⟩ := List.mem_iff_getElem?.1 h
        have hjl := (List.getElem?_eq_some_iff.1 hj).1
        obtain ⟨t, ht⟩ : ∃ t, b1[j]? = some t := ⟨b1[j]'(by omega), List.getElem?_eq_getElem _⟩
        obtain ⟨e1, _, ct⟩ := M.inv.row j t ht
        rw [hj] at e1
        have : s = t := exp_inj M.inv.nd M.inv.lv hcan ct (hexp.trans (Option.some.inj e1))
        exact hmem (this ▸ List.mem_of_getElem? ht)
      have hpre : D1 <+: D1 ++ [level S] := List.prefix_append _ _
      refine ⟨D1 ++ [level S], ⟨by simp [hlen], fun i t hi => ?_, ?_, fun R hR => ?_⟩, M.ext.trans hpre, ?_, fun i hi => ?_, fun R hR => ?_, fun R hR => ?_⟩
      · by_cases hib : i < b1.length
        · rw [List.getElem?_append_left hib] at hi
          obtain ⟨e1, e2, ct⟩ := M.inv.row i t hi
          refine ⟨?_, e2, ct.pre hpre⟩
          rw [pre_get hpre (by omega), e1, exp_pre hpre ct.to]
        · rw [List.getElem?_append_right (by omega)] at hi
          cases hi0 : i - b1.length with
          | zero =>
            rw [hi0] at hi
            simp only [List.getElem?_cons_zero, Option.some.injEq] at hi
            subst hi
            refine ⟨?_, fun a ha => by have := hcan.to a ha; omega, hcan.pre hpre⟩
            rw [exp_pre hpre hcan.to, hexp, List.getElem?_append_right (by omega), hlen, hi0]
            rfl
          | succ j => rw [hi0] at hi; simp at hi
      · rw [List.nodup_append]
        exact ⟨M.inv.nd, by simp, fun a ha c hc => by rw [List.mem_singleton.1 hc]; exact fun e => hnew (e ▸ ha)⟩
      · rcases List.mem_append.1 hR with h | h
        · exact M.inv.lv R h
        · rw [List.mem_singleton.1 h]
          exact ⟨level_ne.2 hG.1, least_level hG.1⟩
      · rw [List.getElem?_append_right (by omega), hlen]
        simp
      · obtain ⟨h1, _, h3⟩ := hold i hi
        rw [h1] at hmem
        exact absurd (List.mem_of_getElem? h3) hmem
      · rcases List.mem_append.1 hR with h | h
        · rcases M.sub R h with h | ⟨p, hp, h⟩
          · exact .inl h
          · exact .inr (.step hp h)
        · rw [List.mem_singleton.1 h]
          exact .inr (.here S)
      · cases hR with
        | here => simp
        | step hp h => exact List.mem_append_left _ (M.all _ hp R h)
end Go.Proofs.YtllmdfkiogmofaaGreatDoor.Fm

/- Cut: what the seat's translation lacks is left out. -/
/- (*builder).list. -/
namespace Go.Proofs.YtllmdfkiogmofaaGreatDoor
open Go.RowKit Nums Fm
set_option maxRecDepth 100000

theorem AOwn.at {B : Nat} {w : World} {v : Value} {l : List Arc} (h : AOwn B w v l) (h0 : 0 < l.length) : ∃ g cap, v = .slice (some ⟨g, 0, none⟩) l.length cap ∧ g < w.heap.size ∧ l.length ≤ cap ∧ (∃ cur, w.heap[g]? = some (.cells cur 63 (0, 0))) ∧
    ∀ (i : Nat) (a : Arc), l[i]? = some a → w.cell? ⟨g, i * 3, none⟩ = some (.int .i32 a.label) ∧ w.cell? ⟨g, i * 3 + 1, none⟩ = some (.int .i64 a.out) ∧ w.cell? ⟨g, i * 3 + 2, none⟩ = some (.int .i64 a.to) := by
  obtain ⟨g, cap, rfl, hg, _, hc, hx⟩ := GOwn.cell h (by simpa using h0)
  refine ⟨g, cap, by simp, hg, by simpa using hc, (GOwn.block h rfl).2, fun i a hi => ?_⟩
  have e : (l.map cellsA)[i]? = some (cellsA a) := by rw [List.getElem?_map, hi]; rfl
  exact ⟨hx i 0 _ _ e rfl, hx i 1 _ _ e rfl, hx i 2 _ _ e rfl⟩
/-- What the walk looks at in a round. -/
structure SL (g g2 lb n : Nat) (a : Arc) (w : World) : Prop where
  c : w.cell? ⟨g, 2, none⟩ = some (.map (some g2))
  l0 : w.cell? ⟨lb, 0, none⟩ = some (.int .i64 n)
  l1 : w.cell? ⟨lb, 1, none⟩ = some (.int .i32 a.label)
  l2 : w.cell? ⟨lb, 2, none⟩ = some (.int .i64 a.out)
  l3 : w.cell? ⟨lb, 3, none⟩ = some (.int .i64 a.to)
theorem SL.facts {g g2 lb n : Nat} {a : Arc} {w : World} (h : SL g g2 lb n a w) : w.cell? ⟨g, 2, none⟩ = some (.map (some g2)) ∧ w.cell? ⟨lb, 0, none⟩ = some (.int .i64 n) ∧ w.cell? ⟨lb, 1, none⟩ = some (.int .i32 a.label) ∧ w.cell? ⟨lb, 2, none⟩ = some (.int .i64 a.out) ∧ w.cell? ⟨lb, 3, none⟩ = some (.int .i64 a.to) := ⟨h.c, h.l0, h.l1, h.l2, h.l3⟩
end Go.Proofs.YtllmdfkiogmofaaGreatDoor

/- Cut: what the seat's translation lacks is left out. -/
/- (*builder).number. -/
namespace Go.Proofs.YtllmdfkiogmofaaGreatDoor
open Go.RowKit Nums Fm
set_option maxRecDepth 100000

/-- Three cells of a block that is there. -/
structure TriAt (w : World) (b : Nat) (x y z : Value) : Prop where
  c0 : w.cell? ⟨b, 0, none⟩ = some x
  c1 : w.cell? ⟨b, 1, none⟩ = some y
  c2 : w.cell? ⟨b, 2, none⟩ = some z
theorem TriAt.of {w : World} {b : Nat} {x y z : Value} {T : TypeId} {q : Nat × Nat} (h : w.heap[b]? = some (.cells #[x, y, z] T q)) : TriAt w b x y z := ⟨by simp [World.cell?, h], by simp [World.cell?, h], by simp [World.cell?, h]⟩
theorem TriAt.same {w w' : World} {b : Nat} {x y z : Value} (h : TriAt w b x y z) (e : w'.heap[b]? = w.heap[b]?) : TriAt w' b x y z :=
  ⟨(World.cell?_of_block (a := ⟨b, 0, none⟩) e).trans h.c0, (World.cell?_of_block (a := ⟨b, 1, none⟩) e).trans h.c1, (World.cell?_of_block (a := ⟨b, 2, none⟩) e).trans h.c2⟩
theorem TriAt.facts {w : World} {b : Nat} {x y z : Value} (h : TriAt w b x y z) : w.cell? ⟨b, 0, none⟩ = some x ∧ w.cell? ⟨b, 1, none⟩ = some y ∧ w.cell? ⟨b, 2, none⟩ = some z := ⟨h.c0, h.c1, h.c2⟩
theorem set_other (w : World) (b o : Nat) (x : Value) {k : Nat} (hk : k ≠ b) : (w.setCell ⟨b, o, none⟩ x).heap[k]? = w.heap[k]? := by
  show (w.heap.modify b _)[k]? = _
  rw [Array.getElem?_modify, if_neg (Ne.symm hk)]
theorem set_at {w : World} {b o : Nat} {cur : Array Value} {T : TypeId} {q : Nat × Nat} (h : w.heap[b]? = some (.cells cur T q)) (x : Value) : (w.setCell ⟨b, o, none⟩ x).heap[b]? = some (.cells (cur.setIfInBounds o x) T q) := by
  show (w.heap.modify b _)[b]? = _
  rw [Array.getElem?_modify, if_pos rfl, h]
  rfl
theorem set_rest (w : World) (b o : Nat) (x : Value) : (w.setCell ⟨b, o, none⟩ x).os = w.os ∧ (w.setCell ⟨b, o, none⟩ x).tape = w.tape ∧ (w.setCell ⟨b, o, none⟩ x).output = w.output ∧ (w.setCell ⟨b, o, none⟩ x).heap.size = w.heap.size := by
  refine ⟨rfl, rfl, rfl, ?_⟩
  show (w.heap.modify b _).size = _
  rw [Array.size_modify]
/-- A block of three cells written whole. -/
def tri (w : World) (b : Nat) (x y z : Value) : World := ((w.setCell ⟨b, 0, none⟩ x).setCell ⟨b, 1, none⟩ y).setCell ⟨b, 2, none⟩ z
theorem tri_at {w : World} {b : Nat} {a0 a1 a2 : Value} {T : TypeId} {q : Nat × Nat} (h : w.heap[b]? = some (.cells #[a0, a1, a2] T q)) (x y z : Value) : (tri w b x y z).heap[b]? = some (.cells #[x, y, z] T q) := by
  unfold tri
  rw [set_at (set_at (set_at h x) y) z]
  rfl
theorem tri_upd (w : World) (b : Nat) (x y z : Value) : Upd (fun k => k = b) w (tri w b x y z) := by
  have h1 := set_rest w b 0 x
  have h2 := set_rest (w.setCell ⟨b, 0, none⟩ x) b 1 y
  have h3 := set_rest ((w.setCell ⟨b, 0, none⟩ x).setCell ⟨b, 1, none⟩ y) b 2 z
  refine ⟨h3.1.trans (h2.1.trans h1.1), h3.2.1.trans (h2.2.1.trans h1.2.1), h3.2.2.1.trans (h2.2.2.1.trans h1.2.2.1), Nat.le_of_eq (h3.2.2.2.trans (h2.2.2.2.trans h1.2.2.2)).symm, fun k _ hk => ?_⟩
  unfold tri
  rw [set_other _ _ _ _ hk, set_other _ _ _ _ hk, set_other _ _ _ _ hk]
section
variable {A : Nat → Prop} {E g g1 g2 : Nat} {w w' : World} {vs : Value} {b : List St} {m1 : List (SK × Nat)} {m2 : List (LK × Nat)} {D : List (List Arc)}
end
/-- What region 5 looks at. -/
structure S5 (g g1 kb : Nat) (x y z : Value) (w : World) : Prop where
  c : w.cell? ⟨g, 1, none⟩ = some (.map (some g1))
  k : TriAt w kb x y z
theorem S5.facts {g g1 kb : Nat} {x y z : Value} {w : World} (h : S5 g g1 kb x y z w) : w.cell? ⟨g, 1, none⟩ = some (.map (some g1)) ∧ w.cell? ⟨kb, 0, none⟩ = some x ∧ w.cell? ⟨kb, 1, none⟩ = some y ∧ w.cell? ⟨kb, 2, none⟩ = some z := ⟨h.c, h.k.c0, h.k.c1, h.k.c2⟩
/-- What region 6 looks at. -/
structure S6 (g bs : Nat) (vs x y z : Value) (w : World) : Prop where
  c : w.cell? ⟨g, 0, none⟩ = some vs
  k : TriAt w bs x y z
theorem S6.facts {g bs : Nat} {vs x y z : Value} {w : World} (h : S6 g bs vs x y z w) : w.cell? ⟨g, 0, none⟩ = some vs ∧ w.cell? ⟨bs, 0, none⟩ = some x ∧ w.cell? ⟨bs, 1, none⟩ = some y ∧ w.cell? ⟨bs, 2, none⟩ = some z := ⟨h.c, h.k.c0, h.k.c1, h.k.c2⟩
end Go.Proofs.YtllmdfkiogmofaaGreatDoor

/- Cut: what the seat's translation lacks is left out. -/
/- (*builder).number, walked. -/
namespace Go.Proofs.YtllmdfkiogmofaaGreatDoor
open Go.RowKit Nums Fm
set_option maxRecDepth 100000


theorem exec_app {P : Program} {ρ : Operand → Value} {x y : Operand} {t : TypeId} {dst : Option Tmp} {ty : TypeId} {pos : String} {af : Array Edge} {g : Option (Nat × Bool)} {w w' : World} {v : Value} (h : (Builtin.append_ #[t, t] ty #[ρ x, ρ y]).run P w = .ok v w') :
    (execOp ρ ⟨dst, .call { callee := .builtin .append, args := #[x, y], argTypes := #[t, t] }, ty, pos, af, g⟩).run P w = .ok (.value v) w' := by
  simp only [execOp, resolve, invoke, builtin, Sem.run_bind, Sem.run_pure, Result.andThen_ok, List.map_toArray, List.map_cons, List.map_nil, h]

end Go.Proofs.YtllmdfkiogmofaaGreatDoor

/- Cut: what the seat's translation lacks is left out. -/
/- (*builder).state. -/
namespace Go.Proofs.YtllmdfkiogmofaaGreatDoor
open Go.RowKit Nums Fm
set_option maxRecDepth 100000

/-- Entries as they can be. -/
structure EnOk (l : List En) : Prop where
  wt : ∀ e ∈ l, 1 ≤ e.2 ∧ e.2 ≤ 1048576
  rn : ∀ e ∈ l, ∀ c ∈ e.1, Fits32 c
  ln : ∀ e ∈ l, e.1.length ≤ 24
theorem EnOk.sub {l l' : List En} (h : EnOk l) (hs : ∀ e ∈ l', e ∈ l) : EnOk l' := ⟨fun e he => h.wt e (hs e he), fun e he => h.rn e (hs e he), fun e he => h.ln e (hs e he)⟩
/-- What region 4 looks at. -/
def S4E (ge oe : Nat) (n : Int) (w : World) : Prop := w.cell? ⟨ge, oe + 1, none⟩ = some (.int .i64 n)
theorem S4E.facts {ge oe : Nat} {n : Int} {w : World} (h : S4E ge oe n w) : w.cell? ⟨ge, oe + 1, none⟩ = some (.int .i64 n) := h
/-- What region 8 looks at. -/
structure S8 (bs : Nat) (va : Value) (ge oe gr o n c : Nat) (k : Nat) (ch : Int) (w : World) : Prop where
  b : w.cell? ⟨bs, 2, none⟩ = some va
  e : w.cell? ⟨ge, oe, none⟩ = some (.slice (some ⟨gr, o, none⟩) n c)
  r : w.cell? ⟨gr, o + k, none⟩ = some (.int .i32 ch)
theorem S8.facts {bs : Nat} {va : Value} {ge oe gr o n c : Nat} {k : Nat} {ch : Int} {w : World} (h : S8 bs va ge oe gr o n c k ch w) : w.cell? ⟨bs, 2, none⟩ = some va ∧ w.cell? ⟨ge, oe, none⟩ = some (.slice (some ⟨gr, o, none⟩) n c) ∧ w.cell? ⟨gr, o + k, none⟩ = some (.int .i32 ch) := ⟨h.b, h.e, h.r⟩
theorem RunesAt.low {E : Nat} {w : World} {g o n cap : Nat} {xs : List Int} (h : RunesAt E w (.slice (some ⟨g, o, none⟩) n cap) xs) (h0 : 0 < xs.length) : g < E := by
  obtain ⟨ad', cap', e, hc⟩ := h
  simp only [Value.slice.injEq] at e
  obtain ⟨rfl, _, rfl⟩ := e
  obtain ⟨g', off, e, hg, _⟩ := hc h0
  simp only [Option.some.injEq, Addr.mk.injEq] at e
  omega
/-- A row's front and its rest. -/
theorem ERow.take {E : Nat} {w : World} {ge oe n cap m : Nat} {l : List En} (h : ERow E w (.slice (some ⟨ge, oe, none⟩) n cap) l) (hm : m ≤ n) (hm0 : 0 < m) : ERow E w (.slice (some ⟨ge, oe, none⟩) m cap) (l.take m) := by
  have hn : n = l.length := by obtain ⟨_, _, e, _⟩ := h; simp only [Value.slice.injEq] at e; exact e.2.1
  obtain ⟨g', o', e', hg, hc, hx⟩ := h.at (by omega)
  simp only [Option.some.injEq, Addr.mk.injEq] at e'
  obtain ⟨rfl, rfl, _⟩ := e'
  refine ⟨_, cap, by rw [List.length_take, Nat.min_eq_left (by omega)], by rw [List.length_take]; omega, fun _ => ⟨ge, oe, rfl, hg, fun i e hi => hx i e ?_⟩⟩
  rw [List.getElem?_take] at hi
  split at hi
  · exact hi
  · cases hi
theorem ERow.drop {E : Nat} {w : World} {ge oe n cap m : Nat} {l : List En} {ad : Option Addr} (h : ERow E w (.slice (some ⟨ge, oe, none⟩) n cap) l) (hm : m ≤ n) (hm0 : 0 < n) (had : m = n ∨ ad = some ⟨ge, oe + m * 2, none⟩) : ERow E w (.slice ad (n - m) (cap - m)) (l.drop m) := by
  have hn : n = l.length := by obtain ⟨_, _, e, _⟩ := h; simp only [Value.slice.injEq] at e; exact e.2.1
  obtain ⟨g', o', e', hg, hc, hx⟩ := h.at hm0
  simp only [Option.some.injEq, Addr.mk.injEq] at e'
  obtain ⟨rfl, rfl, _⟩ := e'
  refine ⟨ad, cap - m, by rw [List.length_drop, hn], by rw [List.length_drop]; omega, fun h0 => ?_⟩
  rw [List.length_drop] at h0
  refine ⟨ge, oe + m * 2, had.resolve_left (by omega), hg, fun i e hi => ?_⟩
  rw [List.getElem?_drop] at hi
  have := hx (m + i) e hi
  rwa [Nat.add_mul, ← Nat.add_assoc] at this
end Go.Proofs.YtllmdfkiogmofaaGreatDoor

/- Cut: what the seat's translation lacks is left out. -/
/- (*builder).state, walked. -/
namespace Go.Proofs.YtllmdfkiogmofaaGreatDoor
open Go.RowKit Nums Fm
set_option maxRecDepth 100000

/-- What is fixed while groups are gone through. -/
structure SFix (A : Nat → Prop) (E g g1 g2 : Nat) (vs : Value) (b : List St) (m2 : List (LK × Nat)) (f k : Nat) (base : Int) (fin : Bool) (out : Int) (l T0 : List En) (bs : Nat) (w w1 : World) : Prop where
  eq : stF (f + 1) b (cut k l) = numSt (arF (stF f) base b (grp (cut k T0))).1 ⟨fin, out, (arF (stF f) base b (grp (cut k T0))).2⟩
  n0 : bulk (cut k T0) ≤ bulk (cut k l)
  n2 : fin = true → bulk (cut k T0) + 1 ≤ bulk (cut k l)
  t0 : fin = false → T0 ≠ []
  len : T0.length ≤ 4096
  k100 : k + f + 1 ≤ 100
  ok : EnOk T0
  s1 : m2.length + bulk (cut k l) < 549755813888
  s2 : b.length + bulk (cut k l) < 549755813888
  fbase : 1 ≤ base ∧ base ≤ 1048576
  fout : Fits64 out
  fbs : bs = w.heap.size
  fw1 : Below w.heap.size w w1
  w1s : w1.heap.size = bs + 1
  al : ∀ j, A j → j < w.heap.size
  fp : ∀ j, fpB g g1 g2 vs j → j < w.heap.size
  fE : E ≤ w.heap.size
theorem bulk_drop1 {k : Nat} {l : List En} (h : 0 < l.length) : bulk (cut k (l.drop 1)) + 1 ≤ bulk (cut k l) := by
  cases l with
  | nil => simp at h
  | cons e r =>
    rw [cut_cons, bulk_cons]
    simp only [List.drop_succ_cons, List.drop_zero]
    omega

end Go.Proofs.YtllmdfkiogmofaaGreatDoor

/- Cut: what the seat's translation lacks is left out. -/
/- fst.firstFault. -/
namespace Go.Proofs.YtllmdfkiogmofaaGreatDoor
open Go.RowKit Nums Pm
set_option maxRecDepth 100000

theorem drop_at (l : List Pr) (k : Nat) (x : Pr) (h : l[k]? = some x) : l.drop k = x :: l.drop (k + 1) := by
  obtain ⟨hk, rfl⟩ := List.getElem?_eq_some_iff.1 h
  exact List.drop_eq_getElem_cons hk
theorem PRow.form {w : World} {v : Value} {l : List Pr} (h : PRow w v l) : ∃ ad cap, v = .slice ad l.length cap := by
  obtain ⟨ad, cap, e, _⟩ := h; exact ⟨ad, cap, e⟩
def prevOk : Option Pr → Pr → Bool
  | none, _ => true
  | some p, x => lessB p.1 x.1
/-- What is wrong with a pair. -/
def oneF (p : Option Pr) (x : Pr) : Int := if wordB x.1.data.toList = false then 71 else if x.2 < 1 ∨ 1048576 < x.2 then 72 else if prevOk p x = false then 73 else 0
def faultF (p : Option Pr) : List Pr → Int
  | [] => 0
  | x :: r => if oneF p x = 0 then faultF (some x) r else oneF p x
def prevAt (l : List Pr) : Nat → Option Pr
  | 0 => none
  | k + 1 => l[k]?
theorem fault_bad {l : List Pr} {k : Nat} {x : Pr} (hx : l[k]? = some x) {e : Int} (h : oneF (prevAt l k) x = e) (he : e ≠ 0) : faultF (prevAt l k) (l.drop k) = e := by rw [drop_at l k x hx, faultF, h, if_neg he]
theorem fault_step {l : List Pr} {k : Nat} {x : Pr} (hx : l[k]? = some x) (h : oneF (prevAt l k) x = 0) : faultF (prevAt l k) (l.drop k) = faultF (prevAt l (k + 1)) (l.drop (k + 1)) := by
  rw [drop_at l k x hx, faultF, h, if_pos rfl, prevAt, hx]
theorem fault_end {l : List Pr} {k : Nat} (h : l.length ≤ k) : faultF (prevAt l k) (l.drop k) = 0 := by rw [List.drop_eq_nil_of_le h]; rfl
theorem one_word {p : Option Pr} {x : Pr} (h : wordB x.1.data.toList = false) : oneF p x = 71 := by simp [oneF, h]
theorem one_low {p : Option Pr} {x : Pr} (hw : wordB x.1.data.toList = true) (h : x.2 < 1) : oneF p x = 72 := by simp [oneF, h, hw]
theorem one_high {p : Option Pr} {x : Pr} (hw : wordB x.1.data.toList = true) (h : 1048576 < x.2) : oneF p x = 72 := by simp [oneF, h, hw]
theorem one_late {p : Option Pr} {x : Pr} (hw : wordB x.1.data.toList = true) (h1 : ¬ x.2 < 1) (h2 : ¬ 1048576 < x.2) (h : prevOk p x = false) : oneF p x = 73 := by simp [oneF, h, hw, h1, h2]
theorem one_ok {p : Option Pr} {x : Pr} (hw : wordB x.1.data.toList = true) (h1 : ¬ x.2 < 1) (h2 : ¬ 1048576 < x.2) (h : prevOk p x = true) : oneF p x = 0 := by simp [oneF, h, hw, h1, h2]
/-- Strings that can be. -/
def Sm (l : List Pr) : Prop := ∀ x ∈ l, x.1.size ≤ 9223372036854775807
theorem Sm.at {l : List Pr} (h : Sm l) {k : Nat} {x : Pr} (hx : l[k]? = some x) : x.1.size ≤ 9223372036854775807 := h x (List.mem_of_getElem? hx)

end Go.Proofs.YtllmdfkiogmofaaGreatDoor

/- Cut: what the seat's translation lacks is left out. -/
/- fst.entries: words as runes. -/
namespace Go.Proofs.YtllmdfkiogmofaaGreatDoor
open Go.RowKit Nums Fm
set_option maxRecDepth 100000

def entOf (x : Pr) : En := ((rs x.1.data.toList).getD [], x.2)
def ents (l : List Pr) : List En := l.map entOf
theorem Made.runes {B : Nat} {w : World} {v : Value} {xs : List Int} (h : Made B w v xs) : RunesAt w.heap.size w v xs := by
  obtain ⟨hl, ⟨e, h0⟩ | ⟨g, cap, cur, rfl, h1, hh, h3, h4, h5, h6⟩⟩ := h
  · exact ⟨none, 0, by rw [e, h0], fun h => by omega⟩
  · refine ⟨_, cap, rfl, fun _ => ⟨g, 0, rfl, (Array.getElem?_eq_some_iff.1 hh).1, fun i x hi => ?_⟩⟩
    have e : (xs.map (Value.int .i32))[i]? = some (.int .i32 x) := by rw [List.getElem?_map, hi]; rfl
    rw [← h6, List.getElem?_take] at e
    split at e
    · simp only [World.cell?, hh, Nat.zero_add]
      simpa using e
    · cases e
/-- Runes lie in another block than structs of a type T. -/
theorem Made.kept {B : Nat} {w w' : World} {v u : Value} {xs : List Int} {T : TypeId} {k B' : Nat} {xss : List (List Value)} (h : Made B w v xs) (ho : GOwn T k B' w u xss) (hT : T ≠ 21) (hg : w.grownBy w' u.ownBlock) : Made B w' v xs := by
  refine World.ownsRow.kept h hg ?_
  by_cases e : v.ownBlock = none
  · exact .inl e
  · refine .inr fun e2 => ?_
    obtain ⟨g, hgv⟩ := Option.ne_none_iff_exists'.1 e
    obtain ⟨_, cur, h1⟩ := ho.block (e2.symm.trans hgv)
    obtain ⟨_, ⟨ev, _⟩ | ⟨g', cap, cur', rfl, _, h2, _⟩⟩ := h
    · rw [ev] at hgv; cases hgv
    · simp only [Value.ownBlock, Option.some.injEq] at hgv
      subst hgv
      rw [h1] at h2
      simp only [Option.some.injEq, Obj.cells.injEq] at h2
      exact hT h2.2.1
theorem Made.shape {B : Nat} {w : World} {v : Value} {xs : List Int} (h : Made B w v xs) : ∃ ad cap, v = .slice ad xs.length cap := by
  obtain ⟨hl, ⟨e, h0⟩ | ⟨g, cap, cur, rfl, _⟩⟩ := h
  · exact ⟨none, 0, by rw [e, h0]⟩
  · exact ⟨_, cap, rfl⟩
theorem ents_snoc {l : List Pr} {k : Nat} {x : Pr} (h : l[k]? = some x) : ents (l.take (k + 1)) = ents (l.take k) ++ [entOf x] := by
  rw [List.take_add_one, h]
  simp [ents]
theorem ents_len (l : List Pr) : (ents l).length = l.length := by simp [ents]
/-- Words as they can be. -/
def Wd (l : List Pr) : Prop := ∀ x ∈ l, ∃ xs, rs x.1.data.toList = some xs ∧ xs.length ≤ 24 ∧ x.1.size ≤ 96

end Go.Proofs.YtllmdfkiogmofaaGreatDoor

/- fst.Build. -/
namespace Go.Proofs.YtllmdfkiogmofaaGreatDoor
open Go.RowKit Nums Fm
set_option maxRecDepth 100000

/-- What Build says is wrong. -/
def buildE (l : List Pr) : Int := if 4096 < l.length then 70 else faultF none l
/-- The machine. -/
def machOf (l : List Pr) : Int × List St := if buildE l = 0 ∧ l ≠ [] then (least (ents l), (stF 25 [] (ents l)).1) else (0, [])
/-- States in memory. -/
def StRow (B : Nat) (w : World) (vs : Value) (b : List St) : Prop := ∃ xss, GOwn 61 3 B w vs xss ∧ xss.length = b.length ∧ ∀ (i : Nat) (s : St), b[i]? = some s → ∃ va, xss[i]? = some [.bool s.final, .int .i64 s.out, va] ∧ AOwn B w va s.arcs
theorem StRow.nil (B : Nat) (w : World) : StRow B w (.slice none 0 0) [] := ⟨[], GOwn.nil _ _ _ _, rfl, fun i s hi => by simp at hi⟩
theorem StRow.below {B : Nat} {w w' : World} {vs : Value} {b : List St} (h : StRow B w vs b) (hb : Below w.heap.size w w') : StRow B w' vs b := by
  obtain ⟨xss, h1, h2, h3⟩ := h
  refine ⟨xss, h1.below hb, h2, fun i s hi => ?_⟩
  obtain ⟨va, h4, h5⟩ := h3 i s hi
  exact ⟨va, h4, GOwn.below h5 hb⟩
theorem StRow.mono {B B' : Nat} {w : World} {vs : Value} {b : List St} (h : StRow B w vs b) (hb : B' ≤ B) : StRow B' w vs b := by
  obtain ⟨xss, h1, h2, h3⟩ := h
  refine ⟨xss, h1.mono hb, h2, fun i s hi => ?_⟩
  obtain ⟨va, h4, h5⟩ := h3 i s hi
  exact ⟨va, h4, GOwn.mono h5 hb⟩
theorem fault_all : ∀ (l : List Pr) (p : Option Pr), faultF p l = 0 → ∀ x ∈ l, wordB x.1.data.toList = true ∧ 1 ≤ x.2 ∧ x.2 ≤ 1048576
  | [], _, _, x, hx => by cases hx
  | y :: r, p, h, x, hx => by
    rw [faultF] at h
    by_cases h0 : oneF p y = 0
    · rw [if_pos h0] at h
      rcases List.mem_cons.1 hx with rfl | hx
      · unfold oneF at h0
        split at h0
        · cases h0
        · split at h0
          · cases h0
          · rename_i h1 h2
            exact ⟨by simpa using h1, by omega, by omega⟩
      · exact fault_all r _ h x hx
    · rw [if_neg h0] at h; exact absurd h h0
theorem fault_rise : ∀ (l : List Pr) (p : Option Pr), faultF p l = 0 → (∀ q, p = some q → ∀ x ∈ l, lessB q.1 x.1 = true) ∧ l.Pairwise (fun a b => lessB a.1 b.1 = true)
  | [], _, _ => ⟨fun q _ x hx => (by cases hx), List.Pairwise.nil⟩
  | y :: r, p, h => by
    rw [faultF] at h
    by_cases h0 : oneF p y = 0
    · rw [if_pos h0] at h
      obtain ⟨h1, h2⟩ := fault_rise r (some y) h
      have hp : prevOk p y = true := by
        unfold oneF at h0
        split at h0
        · cases h0
        · split at h0
          · cases h0
          · split at h0
            · cases h0
            · rename_i h; simpa using h
      refine ⟨fun q hq x hx => ?_, List.pairwise_cons.2 ⟨fun x hx => h1 y rfl x hx, h2⟩⟩
      subst hq
      rcases List.mem_cons.1 hx with rfl | hx
      · exact hp
      · exact lessB_sto.tr _ _ _ hp (h1 y rfl x hx)
    · rw [if_neg h0] at h; exact absurd h h0
theorem word_runes {x : Pr} (h : wordB x.1.data.toList = true) : ∃ xs, rs x.1.data.toList = some xs ∧ 1 ≤ xs.length ∧ xs.length ≤ 24 ∧ x.1.size ≤ 96 ∧ xs.all isR = true := by
  have hw := h
  unfold wordB at h
  cases hr : rs x.1.data.toList with
  | none => rw [hr] at h; cases h
  | some xs =>
    rw [hr] at h
    simp only [Bool.and_eq_true, decide_eq_true_eq] at h
    have h1 := (rs_len hr).1
    rw [size_length] at h1
    exact ⟨xs, rfl, h.1.1, h.1.2, by omega, (rs_write hr).1⟩
/-- What a dictionary's entries are. -/
structure DictOk (l : List Pr) : Prop where
  wd : Wd l
  en : EnOk (ents l)
  rise : Rise (ents l)
  len : l.length ≤ 4096
  pos : ∀ e ∈ ents l, e.1 ≠ []
theorem dict_ok {l : List Pr} (h : buildE l = 0) : DictOk l := by
  unfold buildE at h
  split at h
  · cases h
  · rename_i hl
    have ha := fault_all l none h
    have hR := (fault_rise l none h).2
    have hent : ∀ e ∈ ents l, ∃ x ∈ l, ∃ xs, rs x.1.data.toList = some xs ∧ e = (xs, x.2) ∧ 1 ≤ xs.length ∧ xs.length ≤ 24 ∧ xs.all isR = true := fun e he => by
      obtain ⟨x, hx, rfl⟩ := List.mem_map.1 he
      obtain ⟨xs, h1, h2, h3, _, h4⟩ := word_runes (ha x hx).1
      exact ⟨x, hx, xs, h1, by rw [entOf, h1]; rfl, h2, h3, h4⟩
    refine ⟨fun x hx => ?_, ⟨fun e he => ?_, fun e he c hc => ?_, fun e he => ?_⟩, ?_, by omega, fun e he => ?_⟩
    · obtain ⟨xs, h1, h2, h3, h4, _⟩ := word_runes (ha x hx).1
      exact ⟨xs, h1, h3, h4⟩
    · obtain ⟨x, hx, rfl⟩ := List.mem_map.1 he
      exact (ha x hx).2
    · obtain ⟨x, hx, xs, h1, rfl, h2, h3, h4⟩ := hent e he
      have := of_decide_eq_true (List.all_eq_true.1 h4 c hc)
      constructor <;> omega
    · obtain ⟨x, hx, xs, h1, rfl, h2, h3, h4⟩ := hent e he
      exact h3
    · unfold Rise ents
      rw [List.pairwise_map]
      refine List.Pairwise.imp_of_mem ?_ hR
      intro a b ha' hb' hab
      obtain ⟨xs, h1, _⟩ := word_runes (ha a ha').1
      obtain ⟨ys, h2, _⟩ := word_runes (ha b hb').1
      rw [entOf, entOf, h1, h2]
      show lexL xs ys = true
      rw [← order_rs h1 h2, ← less_lex]
      exact hab
    · obtain ⟨x, hx, xs, h1, rfl, h2, h3, h4⟩ := hent e he
      exact List.length_pos_iff.1 (show 0 < xs.length by omega)
theorem bulk_le {l : List En} (h : ∀ e ∈ l, e.1.length ≤ 24) : bulk l ≤ l.length * 25 := by
  induction l with
  | nil => simp [bulk]
  | cons e r ih =>
    have h1 := h e (by simp)
    have h2 := ih fun x hx => h x (by simp [hx])
    rw [bulk_cons, List.length_cons]
    omega
/-- What Build says. -/
structure BuildSays (w w' : World) (l : List Pr) (base : Int) (vs : Value) (b : List St) : Prop where
  bel : Below w.heap.size w w'
  row : StRow w.heap.size w' vs b
  mach : machOf l = (base, b)
end Go.Proofs.YtllmdfkiogmofaaGreatDoor

/- The least that a state or its arcs add is 0; machines of dictionaries. -/
namespace Go.Proofs.YtllmdfkiogmofaaGreatDoor
open Nums Fm

namespace Fm
def lowF (m : Int) : List Arc → Int
  | [] => m
  | a :: r => lowF (if a.out < m then a.out else m) r
def lowOf (s : St) : Int := lowF (if s.final then s.out else 1099511627776) s.arcs
theorem lowF_ge : ∀ (l : List Arc) (m : Int), 0 ≤ m → (∀ a ∈ l, 0 ≤ a.out) → 0 ≤ lowF m l
  | [], _, h, _ => h
  | a :: r, m, h, ha => by
    rw [lowF]
    refine lowF_ge r _ ?_ (fun x hx => ha x (by simp [hx]))
    have := ha a (by simp)
    split <;> omega
theorem lowF_le : ∀ (l : List Arc) (m : Int), lowF m l ≤ m ∧ ∀ a ∈ l, lowF m l ≤ a.out
  | [], _ => ⟨Int.le_refl _, fun a ha => by cases ha⟩
  | c :: r, m => by
    rw [lowF]
    obtain ⟨h1, h2⟩ := lowF_le r (if c.out < m then c.out else m)
    have h3 : (if c.out < m then c.out else m) ≤ m ∧ (if c.out < m then c.out else m) ≤ c.out := by split <;> omega
    refine ⟨by omega, fun a ha => ?_⟩
    rcases List.mem_cons.1 ha with rfl | ha
    · omega
    · exact h2 a ha
theorem state_level {D : List (List En)} {b : List St} (h : Inv D b) {i : Nat} {s : St} (hi : b[i]? = some s) : (s.final = true → 0 ≤ s.out) ∧ (∀ a ∈ s.arcs, 0 ≤ a.out) ∧ ((s.final = true ∧ s.out = 0) ∨ ∃ a ∈ s.arcs, a.out = 0) := by
  obtain ⟨e1, _, c⟩ := h.row i s hi
  obtain ⟨hne, hl⟩ := h.lv _ (List.mem_of_getElem? e1)
  have hall : ∀ e ∈ exp D s, 0 ≤ e.2 := fun e he => by rw [← hl]; exact least_all he
  have hmem : ∀ a ∈ s.arcs, ∀ x ∈ D[a.to]?.getD [], pre a.label (x.1, x.2 + a.out) ∈ exp D s := fun a ha x hx => by
    refine List.mem_append_right _ (List.mem_flatMap.2 ⟨_, List.mem_map.2 ⟨a, ha, rfl⟩, List.mem_map.2 ⟨(x.1, x.2 + a.out), ?_, rfl⟩⟩)
    exact List.mem_map.2 ⟨x, hx, rfl⟩
  have hout : ∀ a ∈ s.arcs, 0 ≤ a.out := fun a ha => by
    have hv := h.lv _ (List.getElem_mem (c.to a ha))
    obtain ⟨x, hx, h0⟩ := least_mem hv.1
    have := hall _ (hmem a ha x (by rw [List.getElem?_eq_getElem (c.to a ha)]; exact hx))
    simp only [pre] at this
    omega
  refine ⟨fun hf => hall ([], s.out) (List.mem_append_left _ (by simp [fins, hf])), hout, ?_⟩
  obtain ⟨e, he, h0⟩ := least_mem hne
  rw [hl] at h0
  rcases List.mem_append.1 he with he | he
  · unfold fins at he
    split at he
    · rename_i hf
      rw [List.mem_singleton.1 he] at h0
      exact .inl ⟨hf, h0⟩
    · cases he
  · obtain ⟨p, hp, h2⟩ := List.mem_flatMap.1 he
    obtain ⟨a, ha, rfl⟩ := List.mem_map.1 hp
    obtain ⟨y, hy, rfl⟩ := List.mem_map.1 h2
    obtain ⟨x, hx, rfl⟩ := List.mem_map.1 hy
    rw [List.getElem?_eq_getElem (c.to a ha), Option.getD_some] at hx
    have hv := h.lv _ (List.getElem_mem (c.to a ha))
    have h1 := least_all hx
    rw [hv.2] at h1
    have h2 := hout a ha
    simp only [pre] at h0
    exact .inr ⟨a, ha, by omega⟩
theorem state_low {D : List (List En)} {b : List St} (h : Inv D b) {i : Nat} {s : St} (hi : b[i]? = some s) : lowOf s = 0 := by
  obtain ⟨h1, h2, h3⟩ := state_level h hi
  have hge : 0 ≤ lowOf s := lowF_ge _ _ (by split; exact h1 (by assumption); omega) h2
  obtain ⟨h4, h5⟩ := lowF_le s.arcs (if s.final then s.out else 1099511627776)
  have hle : lowOf s ≤ 0 := by
    rcases h3 with ⟨hf, h0⟩ | ⟨a, ha, h0⟩
    · rw [if_pos hf] at h4
      unfold lowOf
      rw [if_pos hf]
      omega
    · have := h5 a ha
      unfold lowOf
      omega
  omega
end Fm
theorem ents_ne {l : List Pr} (h : l ≠ []) : ents l ≠ [] := by simp [ents, h]
theorem dict_good {l : List Pr} (h : buildE l = 0) (hl : l ≠ []) : Fm.Good 25 (ents l) := by
  have hd := dict_ok h
  exact ⟨ents_ne hl, hd.rise, fun e he => by have := hd.en.ln e he; omega⟩
/-- The machine of a dictionary. -/
theorem mach_inv {l : List Pr} (h : buildE l = 0) : ∃ D, Inv D (machOf l).2 := by
  by_cases hl : l = []
  · subst hl
    exact ⟨[], Inv.nil⟩
  · obtain ⟨D, M⟩ := stF_spec 25 [] [] (ents l) Inv.nil (dict_good h hl)
    rw [machOf, if_pos ⟨h, hl⟩]
    exact ⟨D, M.inv⟩
end Go.Proofs.YtllmdfkiogmofaaGreatDoor
