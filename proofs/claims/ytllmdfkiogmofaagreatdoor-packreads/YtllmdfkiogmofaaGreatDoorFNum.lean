/- (*builder).number. -/
import Derived.Test.YtllmdfkiogmofaaGreatDoorFList
namespace Go.Proofs.YtllmdfkiogmofaaGreatDoor
open Go.RowKit Nums Fm
set_option maxRecDepth 100000

/-- Three cells of a block that is there. -/
structure TriAt (w : World) (b : Nat) (x y z : Value) : Prop where
  c0 : w.cell? ⟨b, 0, none⟩ = some x
  c1 : w.cell? ⟨b, 1, none⟩ = some y
  c2 : w.cell? ⟨b, 2, none⟩ = some z
theorem TriAt.of {w : World} {b : Nat} {x y z : Value} {T : TypeId} {q : Nat × Nat} (h : w.heap[b]? = some (.cells #[x, y, z] T q)) : TriAt w b x y z := ⟨by simp [World.cell?, h], by simp [World.cell?, h], by simp [World.cell?, h]⟩
theorem TriAt.same {w w' : World} {b : Nat} {x y z : Value} (h : TriAt w b x y z) (e : w'.heap[b]? = w.heap[b]?) : TriAt w' b x y z :=
  ⟨(World.cell?_of_block (a := ⟨b, 0, none⟩) e).trans h.c0, (World.cell?_of_block (a := ⟨b, 1, none⟩) e).trans h.c1, (World.cell?_of_block (a := ⟨b, 2, none⟩) e).trans h.c2⟩
theorem TriAt.facts {w : World} {b : Nat} {x y z : Value} (h : TriAt w b x y z) : w.cell? ⟨b, 0, none⟩ = some x ∧ w.cell? ⟨b, 1, none⟩ = some y ∧ w.cell? ⟨b, 2, none⟩ = some z := ⟨h.c0, h.c1, h.c2⟩
theorem set_other (w : World) (b o : Nat) (x : Value) {k : Nat} (hk : k ≠ b) : (w.setCell ⟨b, o, none⟩ x).heap[k]? = w.heap[k]? := by
  show (w.heap.modify b _)[k]? = _
  rw [Array.getElem?_modify, if_neg (Ne.symm hk)]
theorem set_at {w : World} {b o : Nat} {cur : Array Value} {T : TypeId} {q : Nat × Nat} (h : w.heap[b]? = some (.cells cur T q)) (x : Value) : (w.setCell ⟨b, o, none⟩ x).heap[b]? = some (.cells (cur.setIfInBounds o x) T q) := by
  show (w.heap.modify b _)[b]? = _
  rw [Array.getElem?_modify, if_pos rfl, h]
  rfl
theorem set_rest (w : World) (b o : Nat) (x : Value) : (w.setCell ⟨b, o, none⟩ x).os = w.os ∧ (w.setCell ⟨b, o, none⟩ x).tape = w.tape ∧ (w.setCell ⟨b, o, none⟩ x).output = w.output ∧ (w.setCell ⟨b, o, none⟩ x).heap.size = w.heap.size := by
  refine ⟨rfl, rfl, rfl, ?_⟩
  show (w.heap.modify b _).size = _
  rw [Array.size_modify]
/-- A block of three cells written whole. -/
def tri (w : World) (b : Nat) (x y z : Value) : World := ((w.setCell ⟨b, 0, none⟩ x).setCell ⟨b, 1, none⟩ y).setCell ⟨b, 2, none⟩ z
theorem tri_at {w : World} {b : Nat} {a0 a1 a2 : Value} {T : TypeId} {q : Nat × Nat} (h : w.heap[b]? = some (.cells #[a0, a1, a2] T q)) (x y z : Value) : (tri w b x y z).heap[b]? = some (.cells #[x, y, z] T q) := by
  unfold tri
  rw [set_at (set_at (set_at h x) y) z]
  rfl
theorem tri_upd (w : World) (b : Nat) (x y z : Value) : Upd (fun k => k = b) w (tri w b x y z) := by
  have h1 := set_rest w b 0 x
  have h2 := set_rest (w.setCell ⟨b, 0, none⟩ x) b 1 y
  have h3 := set_rest ((w.setCell ⟨b, 0, none⟩ x).setCell ⟨b, 1, none⟩ y) b 2 z
  refine ⟨h3.1.trans (h2.1.trans h1.1), h3.2.1.trans (h2.2.1.trans h1.2.1), h3.2.2.1.trans (h2.2.2.1.trans h1.2.2.1), Nat.le_of_eq (h3.2.2.2.trans (h2.2.2.2.trans h1.2.2.2)).symm, fun k _ hk => ?_⟩
  unfold tri
  rw [set_other _ _ _ _ hk, set_other _ _ _ _ hk, set_other _ _ _ _ hk]
theorem mapTyK : Tryz.prog.underlying 89 = some (.map 158 3) := Tryz.underlying89
section
variable {A : Nat → Prop} {E g g1 g2 : Nat} {w w' : World} {vs : Value} {b : List St} {m1 : List (SK × Nat)} {m2 : List (LK × Nat)} {D : List (List Arc)}
/-- A state more. -/
theorem BAt.push (h : BAt A E w g g1 g2 vs b m1 m2 D) {xss : List (List Value)} (ho : GOwn 61 3 E w vs xss) (hxl : xss.length = b.length) (hxe : ∀ (i : Nat) (s : St), b[i]? = some s → ∃ va, xss[i]? = some [.bool s.final, .int .i64 s.out, va] ∧ AOwn E w va s.arcs ∧ ∀ k, va.ownBlock = some k → A k)
    {s : St} {ln : Nat} {va v' : Value} (hs : ∀ k, k < w.heap.size → k ≠ g → k ≠ g1 → vs.ownBlock ≠ some k → w'.heap[k]? = w.heap[k]?) (hg : w'.heap[g]? = some (.cells #[v', .map (some g1), .map (some g2)] 92 (0, 0)))
    (hm : KMapAt 158 valK w' g1 (m1 ++ [((s.final, s.out, ln), b.length)])) (ho' : GOwn 61 3 E w' v' (xss ++ [[.bool s.final, .int .i64 s.out, va]])) (ha : AOwn E w' va s.arcs) (hl : D[ln]? = some s.arcs) (hnew : ∀ k, ((s.final, s.out, ln), k) ∉ m1) :
    BAt (fun k => A k ∨ va.ownBlock = some k) E w' g g1 g2 v' (b ++ [s]) (m1 ++ [((s.final, s.out, ln), b.length)]) m2 D := by
  have hlt := h.lt
  obtain ⟨es1, ck1, hob1⟩ := h.mp1.obj
  obtain ⟨es2, ck2, hob2⟩ := h.mp2.obj
  have hvs2 : vs.ownBlock ≠ some g2 := fun e => by obtain ⟨_, cur, hc⟩ := ho.block e; rw [hob2] at hc; cases hc
  have hgg2 : g2 ≠ g := fun e => by have := h.blk; rw [← e, hob2] at this; cases this
  have harc : ∀ (k : Nat) (cur : Array Value), w.heap[k]? = some (Obj.cells cur 63 (0, 0)) → w'.heap[k]? = w.heap[k]? := fun k cur hk => by
    refine hs k (Array.getElem?_eq_some_iff.1 hk).1 (fun e => ?_) (fun e => ?_) (fun e => ?_)
    · subst e
      rw [h.blk] at hk
      simp only [Option.some.injEq, Obj.cells.injEq] at hk
      exact absurd hk.2.1 (by decide)
    · subst e; rw [hob1] at hk; cases hk
    · obtain ⟨_, cur', hc⟩ := ho.block e
      rw [hk] at hc
      simp only [Option.some.injEq, Obj.cells.injEq] at hc
      exact absurd hc.2.1 (by decide)
  refine ⟨hg, ⟨_, ho', by simp [hxl], fun i t hi => ?_⟩, hm, h.mp2.same (hs g2 hlt.2.2 hgg2 (Ne.symm h.ne) hvs2), h.li, (h.ni.add h.li.nd hnew hl).2, h.ne, h.lo⟩
  by_cases hil : i < b.length
  · rw [List.getElem?_append_left hil] at hi
    obtain ⟨va, h1, h2, h3⟩ := hxe i t hi
    exact ⟨va, by rw [List.getElem?_append_left (by omega)]; exact h1, AOwn.typed h2 harc, fun k hk => .inl (h3 k hk)⟩
  · rw [List.getElem?_append_right (by omega)] at hi
    cases hi0 : i - b.length with
    | zero =>
      rw [hi0] at hi
      simp only [List.getElem?_cons_zero, Option.some.injEq] at hi
      subst hi
      exact ⟨va, by rw [List.getElem?_append_right (by omega), hxl, hi0]; rfl, ha, fun k hk => .inr hk⟩
    | succ j => rw [hi0] at hi; simp at hi
end
/-- What number says. -/
structure NumSays (A : Nat → Prop) (E g g1 g2 : Nat) (vs : Value) (b : List St) (m2 : List (LK × Nat)) (s : St) (va : Value) (w w' : World) (k : Nat) : Prop where
  ex : ∃ vs' m1' m2' D', BAt (fun k => A k ∨ va.ownBlock = some k) E w' g g1 g2 vs' (numSt b s).1 m1' m2' D' ∧ m2'.length ≤ m2.length + s.arcs.length ∧ Upd (fpB g g1 g2 vs) w w' ∧ (vs'.ownBlock = vs.ownBlock ∨ ∃ j, vs'.ownBlock = some j ∧ w.heap.size ≤ j)
  num : (numSt b s).2 = k
/-- What region 5 looks at. -/
structure S5 (g g1 kb : Nat) (x y z : Value) (w : World) : Prop where
  c : w.cell? ⟨g, 1, none⟩ = some (.map (some g1))
  k : TriAt w kb x y z
theorem S5.facts {g g1 kb : Nat} {x y z : Value} {w : World} (h : S5 g g1 kb x y z w) : w.cell? ⟨g, 1, none⟩ = some (.map (some g1)) ∧ w.cell? ⟨kb, 0, none⟩ = some x ∧ w.cell? ⟨kb, 1, none⟩ = some y ∧ w.cell? ⟨kb, 2, none⟩ = some z := ⟨h.c, h.k.c0, h.k.c1, h.k.c2⟩
/-- What region 6 looks at. -/
structure S6 (g bs : Nat) (vs x y z : Value) (w : World) : Prop where
  c : w.cell? ⟨g, 0, none⟩ = some vs
  k : TriAt w bs x y z
theorem S6.facts {g bs : Nat} {vs x y z : Value} {w : World} (h : S6 g bs vs x y z w) : w.cell? ⟨g, 0, none⟩ = some vs ∧ w.cell? ⟨bs, 0, none⟩ = some x ∧ w.cell? ⟨bs, 1, none⟩ = some y ∧ w.cell? ⟨bs, 2, none⟩ = some z := ⟨h.c, h.k.c0, h.k.c1, h.k.c2⟩
/-- Behind region 1: the key lies in block kb, the state in block bs. -/
structure NumMid (A : Nat → Prop) (E g g1 g2 : Nat) (vs : Value) (b : List St) (m1 : List (SK × Nat)) (m2 : List (LK × Nat)) (s : St) (va : Value) (w W : World) (bs kb ln : Nat) (m2' : List (LK × Nat)) (D' : List (List Arc)) : Prop where
  at' : BAt A E W g g1 g2 vs b m1 m2' D'
  len : m2'.length ≤ m2.length + s.arcs.length
  lnD : D'[ln]? = some s.arcs
  key : W.heap[kb]? = some (.cells #[.bool s.final, .int .i64 s.out, .int .i64 ln] 158)
  box : W.heap[bs]? = some (.cells #[.bool s.final, .int .i64 s.out, va] 61)
  upd : Upd (fun k => k = g2) w W
  bs0 : bs = w.heap.size
  kb0 : w.heap.size ≤ kb
  arcs : AOwn E W va s.arcs
end Go.Proofs.YtllmdfkiogmofaaGreatDoor
