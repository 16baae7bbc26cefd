/- The reference's state: what is known, in memory. -/
import Derived.Test.YthjlihhknaelaaaDoorJ19
namespace Go.Proofs.YthjlihhknaelaaaDoor
open Go.RowKit Nums Fm Pm
set_option maxRecDepth 100000

namespace Fm
theorem refA_pre {st : List (List En) → List St → List En → List (List En) × List St × Nat} (h : ∀ D b S, D <+: (st D b S).1) : ∀ (gs : List (Int × List En)) (D : List (List En)) (b : List St), D <+: (refA st D b gs).1
  | [], D, _ => List.prefix_refl D
  | (_, G) :: r, D, b => (h D b G).trans (refA_pre h r _ _)
theorem refF_pre : ∀ (f : Nat) (D : List (List En)) (b : List St) (S : List En), D <+: (refF f D b S).1
  | 0, D, _, _ => List.prefix_refl D
  | f + 1, D, b, S => by
    rw [refF]
    split
    · exact List.prefix_refl D
    · exact (refA_pre (refF_pre f) _ D b).trans (List.prefix_append _ _)
/-- One group more. -/
theorem refA_append (st : List (List En) → List St → List En → List (List En) × List St × Nat) : ∀ (gs hs : List (Int × List En)) (D : List (List En)) (b : List St), refA st D b (gs ++ hs) = ((refA st (refA st D b gs).1 (refA st D b gs).2.1 hs).1, (refA st (refA st D b gs).1 (refA st D b gs).2.1 hs).2.1, (refA st D b gs).2.2 ++ (refA st (refA st D b gs).1 (refA st D b gs).2.1 hs).2.2)
  | [], hs, D, b => by simp [refA]
  | (c, G) :: r, hs, D, b => by
    simp only [List.cons_append, refA]
    rw [refA_append st r hs]
theorem refA_one (st : List (List En) → List St → List En → List (List En) × List St × Nat) (gs : List (Int × List En)) (c : Int) (G : List En) (D : List (List En)) (b : List St) : refA st D b (gs ++ [(c, G)]) = ((st (refA st D b gs).1 (refA st D b gs).2.1 G).1, (st (refA st D b gs).1 (refA st D b gs).2.1 G).2.1, (refA st D b gs).2.2 ++ [⟨c, least G, (st (refA st D b gs).1 (refA st D b gs).2.1 G).2.2⟩]) := by
  rw [refA_append]
  rfl
end Fm
/-- The blocks that are written in place. -/
def fpK (vR vS : Value) (j : Nat) : Prop := vR.ownBlock = some j ∨ vS.ownBlock = some j
/-- The row is the old one's block, or new. -/
def Newer (w : World) (v v' : Value) : Prop := v'.ownBlock = v.ownBlock ∨ ∃ q, v'.ownBlock = some q ∧ w.heap.size ≤ q
/-- States in memory, whose arcs lie in blocks of A. -/
structure StA (A : Nat → Prop) (B : Nat) (w : World) (vs : Value) (b : List St) : Prop where
  ex : ∃ xss, GOwn 51 3 B w vs xss ∧ xss.length = b.length ∧ ∀ (i : Nat) (s : St), b[i]? = some s → ∃ va, xss[i]? = some [.bool s.final, .int .i64 s.out, va] ∧ AOwn B w va s.arcs ∧ ∀ k, va.ownBlock = some k → A k
  lt : ∀ k, A k → k < w.heap.size
theorem StA.row {A : Nat → Prop} {B : Nat} {w : World} {vs : Value} {b : List St} (h : StA A B w vs b) : StRow B w vs b := by
  obtain ⟨xss, h1, h2, h3⟩ := h.ex
  exact ⟨xss, h1, h2, fun i s hi => by obtain ⟨va, e1, e2, _⟩ := h3 i s hi; exact ⟨va, e1, e2⟩⟩
theorem StA.shape {A : Nat → Prop} {B : Nat} {w : World} {vs : Value} {b : List St} (h : StA A B w vs b) : ∃ ad cap, vs = .slice ad b.length cap := h.row.shape
/-- Nothing of it is written. -/
theorem StA.kept {A : Nat → Prop} {B : Nat} {w w' : World} {vs : Value} {b : List St} (h : StA A B w vs b) (hs : w.heap.size ≤ w'.heap.size) (hv : ∀ j, vs.ownBlock = some j → w'.heap[j]? = w.heap[j]?) (hA : ∀ (j : Nat) (cur : Array Value), A j → w.heap[j]? = some (Obj.cells cur 58 (0, 0)) → w'.heap[j]? = w.heap[j]?) : StA A B w' vs b := by
  obtain ⟨xss, h1, h2, h3⟩ := h.ex
  refine ⟨⟨xss, h1.same hv, h2, fun i s hi => ?_⟩, fun k hk => Nat.lt_of_lt_of_le (h.lt k hk) hs⟩
  obtain ⟨va, e1, e2, e3⟩ := h3 i s hi
  exact ⟨va, e1, GOwn.same e2 fun g hg => (by obtain ⟨_, cur, hc⟩ := GOwn.block e2 hg; exact hA g cur (e3 g hg) hc), e3⟩
theorem StA.below {A : Nat → Prop} {B : Nat} {w w' : World} {vs : Value} {b : List St} (h : StA A B w vs b) (hb : Below w.heap.size w w') : StA A B w' vs b := by
  obtain ⟨xss, h1, _, _⟩ := h.ex
  exact h.kept hb.size (fun j hj => hb.block j (h1.lt hj)) (fun j _ hj _ => hb.block j (h.lt j hj))
/-- What is known behind a call. -/
structure KSays (A A' : Nat → Prop) (E B : Nat) (w w' : World) (vR vS vR' vS' : Value) (D : List (List En)) (b : List St) : Prop where
  rests : AllOwn E B w' vR' D
  states : StA A' B w' vS' b
  sub : ∀ j, A' j → A j ∨ w.heap.size ≤ j
  upd : Upd (fpK vR vS) w w'
  ownR : Newer w vR vR'
  ownS : Newer w vS vS'
theorem Newer.refl (w : World) (v : Value) : Newer w v v := .inl rfl
theorem Newer.trans {w w1 : World} {v v1 v2 : Value} (h1 : Newer w v v1) (h2 : Newer w1 v1 v2) (hs : w.heap.size ≤ w1.heap.size) : Newer w v v2 := by
  rcases h2 with h2 | ⟨q, h2, hq⟩
  · rcases h1 with h1 | ⟨q, h1, hq⟩
    · exact .inl (h2.trans h1)
    · exact .inr ⟨q, h2.trans h1, hq⟩
  · exact .inr ⟨q, h2, Nat.le_trans hs hq⟩
theorem Newer.low {w : World} {v v' : Value} (h : Newer w v v') {j : Nat} (hj : j < w.heap.size) (e : v'.ownBlock = some j) : v.ownBlock = some j := by
  rcases h with h | ⟨q, h, hq⟩
  · rw [← h]; exact e
  · rw [h] at e; cases e; omega
theorem KSays.refl {A : Nat → Prop} {E B : Nat} {w : World} {vR vS : Value} {D : List (List En)} {b : List St} (h1 : AllOwn E B w vR D) (h2 : StA A B w vS b) : KSays A A E B w w vR vS vR vS D b := ⟨h1, h2, fun _ h => .inl h, Upd.refl _ _, Newer.refl _ _, Newer.refl _ _⟩
theorem KSays.trans {A A1 A2 : Nat → Prop} {E B : Nat} {w w1 w2 : World} {vR vS vR1 vS1 vR2 vS2 : Value} {D1 D2 : List (List En)} {b1 b2 : List St} (h1 : KSays A A1 E B w w1 vR vS vR1 vS1 D1 b1) (h2 : KSays A1 A2 E B w1 w2 vR1 vS1 vR2 vS2 D2 b2) : KSays A A2 E B w w2 vR vS vR2 vS2 D2 b2 :=
  ⟨h2.rests, h2.states, fun j hj => by
    rcases h2.sub j hj with h | h
    · exact h1.sub j h
    · exact .inr (Nat.le_trans h1.upd.size h), h1.upd.trans h2.upd (fun j hj hf => by
    rcases hf with hf | hf
    · exact .inl (h1.ownR.low hj hf)
    · exact .inr (h1.ownS.low hj hf)), h1.ownR.trans h2.ownR h1.upd.size, h1.ownS.trans h2.ownS h1.upd.size⟩
/-- A row of another type is not written. -/
theorem GOwn.over {T : TypeId} {k B : Nat} {w w' : World} {v vR vS : Value} {xss yss zss : List (List Value)} {BR BS : Nat} (h : GOwn T k B w v xss) (hR : GOwn 72 1 BR w vR yss) (hS : GOwn 51 3 BS w vS zss) (h1 : T ≠ 72) (h2 : T ≠ 51) (hu : Upd (fpK vR vS) w w') : GOwn T k B w' v xss := by
  refine h.same fun g hg => hu.block g (h.lt hg) fun hf => ?_
  obtain ⟨_, c1, e1⟩ := h.block hg
  rcases hf with hf | hf
  · obtain ⟨_, c2, e2⟩ := hR.block hf
    rw [e1] at e2
    simp only [Option.some.injEq, Obj.cells.injEq] at e2
    exact h1 e2.2.1
  · obtain ⟨_, c2, e2⟩ := hS.block hf
    rw [e1] at e2
    simp only [Option.some.injEq, Obj.cells.injEq] at e2
    exact h2 e2.2.1
/-- Rows of other types are written alone. -/
theorem AllOwn.typed {E B : Nat} {w w' : World} {v : Value} {Ds : List (List En)} (h : AllOwn E B w v Ds) (h1 : ∀ (j : Nat) (cur : Array Value), w.heap[j]? = some (Obj.cells cur 72 (0, 0)) → w'.heap[j]? = w.heap[j]?) (h2 : ∀ (j : Nat) (cur : Array Value), w.heap[j]? = some (Obj.cells cur 94 (0, 0)) → w'.heap[j]? = w.heap[j]?) (hE : Below E w w') : AllOwn E B w' v Ds := by
  obtain ⟨xss, a1, a2, a3⟩ := h.ex
  refine ⟨xss, a1.same fun g hg => (by obtain ⟨_, cur, hc⟩ := a1.block hg; exact h1 g cur hc), a2, fun i R hi => ?_⟩
  obtain ⟨u, e1, e2⟩ := a3 i R hi
  obtain ⟨yss, b1, b2, b3⟩ := e2.ex
  refine ⟨u, e1, ⟨yss, b1.same fun g hg => (by obtain ⟨_, cur, hc⟩ := b1.block hg; exact h2 g cur hc), b2, fun j e hj => ?_⟩⟩
  obtain ⟨q, d1, d2, d3⟩ := b3 j e hj
  exact ⟨q, d1, d2.below hE, d3⟩
theorem RMade.typed {E B : Nat} {w w' : World} {v : Value} {S : List En} (h : RMade E B w v S) (h2 : ∀ (j : Nat) (cur : Array Value), w.heap[j]? = some (Obj.cells cur 94 (0, 0)) → w'.heap[j]? = w.heap[j]?) (hE : Below E w w') : RMade E B w' v S := by
  obtain ⟨yss, b1, b2, b3⟩ := h.ex
  refine ⟨yss, b1.same fun g hg => (by obtain ⟨_, cur, hc⟩ := b1.block hg; exact h2 g cur hc), b2, fun j e hj => ?_⟩
  obtain ⟨q, d1, d2, d3⟩ := b3 j e hj
  exact ⟨q, d1, d2.below hE, d3⟩
theorem Fm.refA_len (st : List (List En) → List St → List En → List (List En) × List St × Nat) : ∀ (gs : List (Int × List En)) (D : List (List En)) (b : List St), (refA st D b gs).2.2.length = gs.length
  | [], _, _ => rfl
  | (_, G) :: r, D, b => by simp only [refA, List.length_cons, refA_len st r]
/-- The same, where the box kb of what is known is written too. -/
theorem GOwn.over3 {T : TypeId} {k B kb : Nat} {w w' : World} {v vR vS x y : Value} {xss yss zss : List (List Value)} {BR BS : Nat} (h : GOwn T k B w v xss) (hR : GOwn 72 1 BR w vR yss) (hS : GOwn 51 3 BS w vS zss) (hK : w.heap[kb]? = some (.cells #[x, y] 76)) (h1 : T ≠ 72) (h2 : T ≠ 51) (h3 : T ≠ 76) (hu : Upd (fun j => fpK vR vS j ∨ j = kb) w w') : GOwn T k B w' v xss := by
  refine h.same fun g hg => hu.block g (h.lt hg) fun hf => ?_
  obtain ⟨_, c1, e1⟩ := h.block hg
  rcases hf with (hf | hf) | hf
  · obtain ⟨_, c2, e2⟩ := hR.block hf
    rw [e1] at e2
    simp only [Option.some.injEq, Obj.cells.injEq] at e2
    exact h1 e2.2.1
  · obtain ⟨_, c2, e2⟩ := hS.block hf
    rw [e1] at e2
    simp only [Option.some.injEq, Obj.cells.injEq] at e2
    exact h2 e2.2.1
  · rw [hf, hK] at e1
    simp only [Option.some.injEq, Obj.cells.injEq] at e1
    exact h3 e1.2.1.symm
end Go.Proofs.YthjlihhknaelaaaDoor
