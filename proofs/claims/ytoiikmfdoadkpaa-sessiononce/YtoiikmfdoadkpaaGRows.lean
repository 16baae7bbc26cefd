/- Rows of structs that the call has made, each struct as the list of its cells. -/
import Derived.Test.YtoiikmfdoadkpaaPBase
import Derived.Laws.AppendOwnNone
import Derived.Deep.MidRow
namespace Go.Proofs.Ytoiikmfdoadkpaa
open Go.RowKit Go.Lib
set_option maxRecDepth 100000

/-- What append asks of an element's type. -/
structure RTy (T TS : TypeId) (k bytes : Nat) : Prop where
  und : Try.prog.underlying TS = some (.slice T)
  inf : ∃ z, (Try.prog.info? T).map (fun i => (i.zero, i.size, i.bytes)) = some (some z, k, bytes) ∧ z.cells.size = k
  pos : 0 < k
  small : bytes ≤ 64
/-- A struct's cells. -/
def Cells (k : Nat) (x : List Value) : Prop := x.length = k ∧ ∀ u ∈ x, u.oneCell' = true
def GOwn (T : TypeId) (k B : Nat) (w : World) (v : Value) (xss : List (List Value)) : Prop := (∀ x ∈ xss, Cells k x) ∧ w.ownsRow B T k v xss.length xss.flatten
variable {T TS : TypeId} {k bytes B : Nat} {w w' : World} {v : Value} {xss : List (List Value)}
theorem GOwn.nil (T : TypeId) (k B : Nat) (w : World) : GOwn T k B w (.slice none 0 0) [] := ⟨by simp, World.ownsRow_nil _ _ _ _⟩
theorem GOwn.shape (h : GOwn T k B w v xss) : ∃ ad cap, v = .slice ad xss.length cap ∧ xss.length ≤ cap := by
  obtain ⟨_, hl, ⟨e, h0⟩ | ⟨g, cap, cur, rfl, _, _, h3, _⟩⟩ := h
  · exact ⟨none, 0, by rw [e, h0], by omega⟩
  · exact ⟨_, cap, rfl, h3⟩
theorem GOwn.mono {B' : Nat} (h : GOwn T k B w v xss) (hB : B' ≤ B) : GOwn T k B' w v xss := by
  obtain ⟨h0, hl, hn | ⟨g, cap, cur, rfl, h1, h2⟩⟩ := h
  · exact ⟨h0, hl, .inl hn⟩
  · exact ⟨h0, hl, .inr ⟨g, cap, cur, rfl, by omega, h2⟩⟩
/-- Its block, and that of a like type. -/
theorem GOwn.block (h : GOwn T k B w v xss) {g : Nat} (hg : v.ownBlock = some g) : B ≤ g ∧ ∃ cur, w.heap[g]? = some (.cells cur T (0, 0)) := by
  obtain ⟨_, hl, ⟨e, _⟩ | ⟨g', cap, cur, rfl, h1, h2, _⟩⟩ := h
  · rw [e] at hg; cases hg
  · simp only [Value.ownBlock, Option.some.injEq] at hg
    subst hg
    exact ⟨h1, cur, h2⟩
theorem GOwn.same (h : GOwn T k B w v xss) (e : ∀ g, v.ownBlock = some g → w'.heap[g]? = w.heap[g]?) : GOwn T k B w' v xss := by
  obtain ⟨h0, hl, hn | ⟨g, cap, cur, rfl, h1, hg, h2⟩⟩ := h
  · exact ⟨h0, hl, .inl hn⟩
  · exact ⟨h0, hl, .inr ⟨g, cap, cur, rfl, h1, (e g rfl).trans hg, h2⟩⟩
theorem GOwn.lt (h : GOwn T k B w v xss) {g : Nat} (hg : v.ownBlock = some g) : g < w.heap.size := by
  obtain ⟨_, cur, h1⟩ := h.block hg
  exact (Array.getElem?_eq_some_iff.1 h1).1
theorem GOwn.below (h : GOwn T k B w v xss) (hb : Below w.heap.size w w') : GOwn T k B w' v xss :=
  h.same fun g hg => hb.block g (h.lt hg)
theorem flat_get : ∀ (xss : List (List Value)), (∀ x ∈ xss, x.length = k) → ∀ (i j : Nat) (x : List Value) (u : Value), xss[i]? = some x → x[j]? = some u → xss.flatten[i * k + j]? = some u
  | y :: r, hk, 0, j, x, u, hi, hj => by
    simp only [List.getElem?_cons_zero, Option.some.injEq] at hi
    subst hi
    rw [List.flatten_cons, Nat.zero_mul, Nat.zero_add, List.getElem?_append_left (List.getElem?_eq_some_iff.1 hj).1]
    exact hj
  | y :: r, hk, i + 1, j, x, u, hi, hj => by
    have hy := hk y (by simp)
    rw [List.flatten_cons, List.getElem?_append_right (by rw [hy, Nat.add_mul]; omega), hy, show (i + 1) * k + j - k = i * k + j by rw [Nat.add_mul]; omega]
    exact flat_get r (fun x hx => hk x (by simp [hx])) i j x u (by simpa using hi) hj
/-- What a row's cells hold. -/
theorem GOwn.cell (h : GOwn T k B w v xss) (h0 : 0 < xss.length) : ∃ g cap, v = .slice (some ⟨g, 0, none⟩) xss.length cap ∧ g < w.heap.size ∧ B ≤ g ∧ xss.length ≤ cap ∧ ∀ i j x u, xss[i]? = some x → x[j]? = some u → w.cell? ⟨g, i * k + j, none⟩ = some u := by
  have hlen : ∀ x ∈ xss, x.length = k := fun x hx => (h.1 x hx).1
  obtain ⟨_, hl, ⟨_, e⟩ | ⟨g, cap, cur, rfl, h1, hh, h3, h4, h5, h6⟩⟩ := h
  · omega
  · refine ⟨g, cap, rfl, (Array.getElem?_eq_some_iff.1 hh).1, h1, h3, fun i j x u hi hj => ?_⟩
    have e := flat_get xss hlen i j x u hi hj
    rw [← h6, List.getElem?_take] at e
    split at e
    · simp only [World.cell?, hh]
      simpa using e
    · cases e
/-- 'append(l, x)': the struct x lies in block nb. -/
theorem gappend_run (R : RTy T TS k bytes) (hown : GOwn T k B w v xss) (hB : B ≤ w.heap.size) {x : List Value} (hx : Cells k x) {nb : Nat} (hc : ∀ j u, x[j]? = some u → w.cell? ⟨nb, j, none⟩ = some u) (h63 : xss.length < 1099511627776) (ty : TypeId) (c : Nat) :
    ∃ v' w', (Builtin.append_ #[TS, TS] ty #[v, .slice (some ⟨nb, 0, none⟩) 1 c]).run Try.prog w = .ok v' w' ∧ GOwn T k B w' v' (xss ++ [x]) ∧ w.grownBy w' v.ownBlock ∧ (v'.ownBlock = v.ownBlock ∨ ∃ g, v'.ownBlock = some g ∧ w.heap.size ≤ g) := by
  obtain ⟨z, hz, hzs⟩ := R.inf
  obtain ⟨i0, hi, hz0, hz1, hz2⟩ := info_parts hz
  obtain ⟨v', w', h1, h2, h3, _⟩ := run_append_own (P := Try.prog) w B TS ty T i0 z k bytes R.und hi hz0 hz1 hz2 hzs R.pos v xss.length xss.flatten hown.2 ⟨nb, 0, none⟩ 1 c x (by rw [hx.1]; omega) (fun j u hj => by
    have hadd : ∀ j, (⟨nb, 0, none⟩ : Addr).add j = ⟨nb, 0 + j, none⟩ := fun j => by unfold Addr.add; split <;> simp_all
    rw [hadd, Nat.zero_add]
    exact hc j u hj) hx.2 (by simp only [maxLen]; omega) (by have := R.small; calc (xss.length + 1) * bytes ≤ (xss.length + 1) * 64 := Nat.mul_le_mul_left _ this
                                                                         _ ≤ 140737488355328 := by omega) hB
  have hown' : GOwn T k B w' v' (xss ++ [x]) := by
    refine ⟨fun y hy => ?_, ?_⟩
    · rcases List.mem_append.1 hy with hy | hy
      · exact hown.1 y hy
      · rw [List.mem_singleton.1 hy]; exact hx
    · rw [List.length_append, List.flatten_append]
      simpa using h2
  refine ⟨v', w', h1, hown', h3, ?_⟩
  have hadd : ∀ j, (⟨nb, 0, none⟩ : Addr).add j = ⟨nb, j, none⟩ := fun j => by unfold Addr.add; split <;> simp_all
  have hnews : ∀ j u, x[j]? = some u → w.cell? ((⟨nb, 0, none⟩ : Addr).add j) = some u := fun j u hj => by rw [hadd]; exact hc j u hj
  have hl : x.length = 1 * i0.size := by rw [hx.1, hz1]; omega
  have hb64 : (xss.length + 1) * i0.bytes ≤ 140737488355328 := by
    rw [hz2]
    have := R.small
    calc (xss.length + 1) * bytes ≤ (xss.length + 1) * 64 := Nat.mul_le_mul_left _ this
      _ ≤ 140737488355328 := by omega
  obtain ⟨_, hlf, ⟨ev, h0⟩ | ⟨g, cap, cur, ev, hb', hh, hnc, hcm, hcs, htake⟩⟩ := id hown
  · subst ev
    rw [h0] at hb64
    have hr := run_append_nil (P := Try.prog) w TS ty T i0 z R.und hi hz0 ⟨nb, 0, none⟩ 1 c x hl hnews (by omega) (by omega) (by omega)
    rw [hr] at h1
    injection h1 with h1 _
    exact .inr ⟨w.heap.size, by rw [← h1]; rfl, Nat.le_refl _⟩
  · subst ev
    have hcs' : cur.size = cap * i0.size := by rw [hz1]; exact hcs
    have hlf' : xss.flatten.length = xss.length * i0.size := by rw [hz1]; exact hlf
    by_cases hroom : xss.length + 1 ≤ cap
    · have hfit : xss.length * i0.size + x.length ≤ cur.size := by rw [hl, hcs', ← Nat.add_mul]; exact Nat.mul_le_mul_right _ hroom
      have hr := run_append_room (P := Try.prog) w TS ty T i0 R.und hi g xss.length cap cur hh ⟨nb, 0, none⟩ 1 c x hl hnews hx.2 hroom hfit
      rw [hr] at h1
      injection h1 with h1 _
      exact .inl (by rw [← h1]; rfl)
    · have holds : ∀ j u, xss.flatten[j]? = some u → w.cell? ((⟨g, 0, none⟩ : Addr).add j) = some u := hown.2.cells (g := g) rfl
      have hr := run_append_grow (P := Try.prog) w TS ty T i0 z R.und hi hz0 ⟨g, 0, none⟩ xss.length cap xss.flatten hlf' holds ⟨nb, 0, none⟩ 1 c x hl hnews (by omega) (by omega) (growslice_fits (by omega) hb64)
      rw [hr] at h1
      injection h1 with h1 _
      exact .inr ⟨w.heap.size, by rw [← h1]; rfl, Nat.le_refl _⟩
theorem gBelow (h : GOwn T k B w v xss) (hg : w.grownBy w' v.ownBlock) (hB : B ≤ w.heap.size) : Below B w w' :=
  (Below.refl B w).grown hg hB (fun k hk => (World.ownsRow.lt h.2 k hk).1)
/-- The same in a walk, where x was just laid in a new block. -/
theorem append_g {W : World} {ops : Array Oper} {rest : List Oper} {o : Oper} {a : Act} {Q : Exit → Act → World → Prop} (R : RTy T TS k bytes) (hgd : o.guard = none) (s y : Operand) (x : List Value) (T2 : TypeId)
    (ho : o.op = .call { callee := .builtin .append, args := #[s, y], argTypes := #[TS, TS] }) (B nb c : Nat) (v : Value) (xss : List (List Value)) (hs : a.eval s = v) (hown : GOwn T k B W v xss) (hy : a.eval y = .slice (some ⟨nb, 0, none⟩) 1 c) (hnb : nb = W.heap.size) (hx : Cells k x) (h63 : xss.length < 1099511627776) (hB : B ≤ W.heap.size)
    (h : ∀ v' w', GOwn T k B w' v' (xss ++ [x]) → Below B W w' → (W.alloc (.cells x.toArray T2)).grownBy w' v.ownBlock → wpList Try.prog ops Q rest (a.put o.dst v') w') : wpList Try.prog ops Q (o :: rest) a (W.alloc (.cells x.toArray T2)) := by
  subst hnb
  have hbA : Below W.heap.size W (W.alloc (.cells x.toArray T2)) := (Below.refl _ W).alloc (Nat.le_refl _) _
  obtain ⟨v', w', h1, h2, h3, _⟩ := gappend_run R (hown.below hbA) (by simp; omega) hx (nb := W.heap.size) (fun j u hj => by simpa using hj) h63 o.type c
  refine wpList_plain hgd fun _ hK => ?_
  unfold Oper.wp execOp
  simp only [ho, resolve, invoke, builtin, Sem.run_bind, Sem.run_pure, Result.andThen_ok, List.map_toArray, List.map_cons, List.map_nil, hs, hy, h1]
  exact hK _ _ (h v' w' h2 (((Below.refl B W).alloc hB _).trans (gBelow (hown.below hbA) h3 (by simp; omega))) h3)
/-- The same, and where the row lies then. -/
theorem append_g2 {W : World} {ops : Array Oper} {rest : List Oper} {o : Oper} {a : Act} {Q : Exit → Act → World → Prop} (R : RTy T TS k bytes) (hgd : o.guard = none) (s y : Operand) (x : List Value) (T2 : TypeId)
    (ho : o.op = .call { callee := .builtin .append, args := #[s, y], argTypes := #[TS, TS] }) (B nb c : Nat) (v : Value) (xss : List (List Value)) (hs : a.eval s = v) (hown : GOwn T k B W v xss) (hy : a.eval y = .slice (some ⟨nb, 0, none⟩) 1 c) (hnb : nb = W.heap.size) (hx : Cells k x) (h63 : xss.length < 1099511627776) (hB : B ≤ W.heap.size)
    (h : ∀ v' w', GOwn T k B w' v' (xss ++ [x]) → (W.alloc (.cells x.toArray T2)).grownBy w' v.ownBlock → (v'.ownBlock = v.ownBlock ∨ ∃ g, v'.ownBlock = some g ∧ W.heap.size ≤ g) → wpList Try.prog ops Q rest (a.put o.dst v') w') : wpList Try.prog ops Q (o :: rest) a (W.alloc (.cells x.toArray T2)) := by
  subst hnb
  have hbA : Below W.heap.size W (W.alloc (.cells x.toArray T2)) := (Below.refl _ W).alloc (Nat.le_refl _) _
  obtain ⟨v', w', h1, h2, h3, h4⟩ := gappend_run R (hown.below hbA) (by simp; omega) hx (nb := W.heap.size) (fun j u hj => by simpa using hj) h63 o.type c
  refine wpList_plain hgd fun _ hK => ?_
  unfold Oper.wp execOp
  simp only [ho, resolve, invoke, builtin, Sem.run_bind, Sem.run_pure, Result.andThen_ok, List.map_toArray, List.map_cons, List.map_nil, hs, hy, h1]
  refine hK _ _ (h v' w' h2 h3 ?_)
  rcases h4 with e | ⟨g, e, hg⟩
  · exact .inl e
  · exact .inr ⟨g, e, Nat.le_trans hbA.size hg⟩
/-- A row of structs that is read, in a block below E. -/
structure GRow (E k : Nat) (w : World) (v : Value) (xss : List (List Value)) : Prop where
  ex : ∃ ad cap, v = .slice ad xss.length cap ∧ (0 < xss.length → ∃ g off, ad = some ⟨g, off, none⟩ ∧ g < E ∧ ∀ (i j : Nat) (x : List Value) (u : Value), xss[i]? = some x → x[j]? = some u → w.cell? ⟨g, off + i * k + j, none⟩ = some u)
theorem GRow.below {E k : Nat} {w w' : World} {v : Value} {xss : List (List Value)} (h : GRow E k w v xss) (hb : Below E w w') : GRow E k w' v xss := by
  obtain ⟨ad, cap, rfl, hc⟩ := h.ex
  refine ⟨ad, cap, rfl, fun h0 => ?_⟩
  obtain ⟨g, off, rfl, hg, hx⟩ := hc h0
  exact ⟨g, off, rfl, hg, fun i j x u hi hj => (hb.cell (p := ⟨g, off + i * k + j, none⟩) hg).trans (hx i j x u hi hj)⟩
theorem GRow.mono {E E' k : Nat} {w : World} {v : Value} {xss : List (List Value)} (h : GRow E k w v xss) (hE : E ≤ E') : GRow E' k w v xss := by
  obtain ⟨ad, cap, rfl, hc⟩ := h.ex
  refine ⟨ad, cap, rfl, fun h0 => ?_⟩
  obtain ⟨g, off, rfl, hg, hx⟩ := hc h0
  exact ⟨g, off, rfl, Nat.lt_of_lt_of_le hg hE, hx⟩
theorem GRow.shape {E k : Nat} {w : World} {v : Value} {xss : List (List Value)} (h : GRow E k w v xss) : ∃ ad cap, v = .slice ad xss.length cap := by
  obtain ⟨ad, cap, rfl, _⟩ := h.ex
  exact ⟨ad, cap, rfl⟩
theorem GOwn.reads {T : TypeId} {k B : Nat} {w : World} {v : Value} {xss : List (List Value)} (h : GOwn T k B w v xss) : GRow w.heap.size k w v xss := by
  obtain ⟨ad, cap, hv, _⟩ := h.shape
  refine ⟨ad, cap, hv, fun h0 => ?_⟩
  obtain ⟨g, c2, hv2, hg, _, _, hc⟩ := h.cell h0
  rw [hv] at hv2
  simp only [Value.slice.injEq] at hv2
  exact ⟨g, 0, hv2.1, hg, fun i j x u hi hj => by rw [Nat.zero_add]; exact hc i j x u hi hj⟩
end Go.Proofs.Ytoiikmfdoadkpaa
