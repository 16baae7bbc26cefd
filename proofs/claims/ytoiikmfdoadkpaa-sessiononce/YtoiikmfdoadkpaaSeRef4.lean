/- append of a whole row; the reference's Keep. -/
import Derived.Test.YtoiikmfdoadkpaaSeRef2
namespace Go.Proofs.Ytoiikmfdoadkpaa
open Go.RowKit Go.Lib
set_option maxRecDepth 100000
section
variable {T TS : TypeId} {k bytes B : Nat} {xss yss : List (List Value)}
/-- 'append(l, m...)', in a walk. -/
theorem append_all {W : World} {ops : Array Oper} {rest : List Oper} {o : Oper} {a : Act} {Q : Exit → Act → World → Prop} (R : RTy T TS k bytes) (hgd : o.guard = none) (s y : Operand)
    (ho : o.op = .call { callee := .builtin .append, args := #[s, y], argTypes := #[TS, TS] }) (B : Nat) (v yv : Value) (xss yss : List (List Value)) (hs : a.eval s = v) (hown : GOwn T k B W v xss) (hy : a.eval y = yv) (hrow : GOwn T k 0 W yv yss) (h63 : xss.length + yss.length < 1099511627776) (hB : B ≤ W.heap.size)
    (h : ∀ v' w', GOwn T k B w' v' (xss ++ yss) → W.grownBy w' v.ownBlock → wpList Try.prog ops Q rest (a.put o.dst v') w') : wpList Try.prog ops Q (o :: rest) a W := by
  obtain ⟨z, hz, hzs⟩ := R.inf
  obtain ⟨i0, hi, hz0, hz1, hz2⟩ := info_parts hz
  have hlen : ∀ x ∈ yss, x.length = k := fun x hx => (hrow.1 x hx).1
  have hone : ∀ u ∈ yss.flatten, u.oneCell' = true := fun u hu => by
    obtain ⟨x, hx, hux⟩ := List.mem_flatten.1 hu
    exact (hrow.1 x hx).2 u hux
  have hmk : ∀ v' w', w'.ownsRow B T k v' (xss.length + yss.length) (xss.flatten ++ yss.flatten) → GOwn T k B w' v' (xss ++ yss) := fun v' w' h2 => by
    refine ⟨fun x hx => ?_, ?_⟩
    · rcases List.mem_append.1 hx with hx | hx
      · exact hown.1 x hx
      · exact hrow.1 x hx
    · rw [List.length_append, List.flatten_append]; exact h2
  obtain ⟨_, hlf, ⟨ev, h0⟩ | ⟨g, cap, cur, ev, hb', hh, hnc, hcm, hcs, htake⟩⟩ := id hrow
  · subst ev
    have hy0 : yss = [] := List.length_eq_zero_iff.1 h0
    subst hy0
    refine wpList_append_own_none hgd s y TS ho B T i0 k R.und hi v xss.length xss.flatten hs hown.2 hy ?_
    exact h v W (by simpa using hown) (World.grownBy.refl _ _)
  · subst ev
    have holds : ∀ j u, yss.flatten[j]? = some u → W.cell? ((⟨g, 0, none⟩ : Addr).add j) = some u := hrow.2.cells (g := g) rfl
    have hb : (xss.length + yss.length) * bytes ≤ 140737488355328 := by
      have := R.small
      calc (xss.length + yss.length) * bytes ≤ (xss.length + yss.length) * 64 := Nat.mul_le_mul_left _ this
        _ ≤ 140737488355328 := by omega
    obtain ⟨v', w', h1, h2, h3, _⟩ := run_append_own (P := Try.prog) W B TS o.type T i0 z k bytes R.und hi hz0 hz1 hz2 hzs R.pos v xss.length xss.flatten hown.2 ⟨g, 0, none⟩ yss.length cap yss.flatten hlf holds hone (by simp only [maxLen]; omega) hb hB
    refine wpList_plain hgd fun _ hK => ?_
    unfold Oper.wp execOp
    simp only [ho, resolve, invoke, builtin, Sem.run_bind, Sem.run_pure, Result.andThen_ok, List.map_toArray, List.map_cons, List.map_nil, hs, hy, h1]
    exact hK _ _ (h v' w' (hmk _ _ h2) h3)
end
end Go.Proofs.Ytoiikmfdoadkpaa
