/- edit.aligned: mathematics, and append at two rows. -/
import Derived.Test.YtjfbildaaobfpaaDoorPtMath
import Derived.Test.YtjfbildaaobfpaaDoorPtTable
namespace Go.Proofs.YtjfbildaaobfpaaDoor
open Go.RowKit Nums Ed
set_option maxRecDepth 100000

structure AI (xs ys F T : List Int) (a b : Nat) : Prop where
  unF : un F.reverse = xs.drop a
  unT : un T.reverse = ys.drop b
  len : F.length = T.length
  cnt : dif F T + lv (xs.take a) (ys.take b) = lv xs ys
  okF : ∀ x ∈ F, okR x
  okT : ∀ x ∈ T, okR x
  la : a ≤ xs.length
  lb : b ≤ ys.length
  sz : F.length + a + b ≤ xs.length + ys.length
theorem AI.start (xs ys : List Int) : AI xs ys [] [] xs.length ys.length :=
  ⟨by simp [un], by simp [un], rfl, by simp [dif], by simp, by simp, Nat.le_refl _, Nat.le_refl _, by simp⟩
theorem un_snoc (l : List Int) (x : Int) : un (l ++ [x]).reverse = if x = -1 then un l.reverse else x :: un l.reverse := by
  rw [List.reverse_append]; exact un_cons x l.reverse
theorem mem_snoc {l : List Int} {x : Int} (h : ∀ z ∈ l, okR z) (hx : okR x) : ∀ z ∈ l ++ [x], okR z := fun z hz => by
  rcases List.mem_append.1 hz with hz | hz
  · exact h z hz
  · rw [List.mem_singleton.1 hz]; exact hx
theorem dif_snoc {F T : List Int} (h : F.length = T.length) (x y : Int) : dif (F ++ [x]) (T ++ [y]) = dif F T + if x = y then 0 else 1 := by
  rw [dif_append _ _ _ _ h]; simp [dif]
theorem drop_at {xs : List Int} {a : Nat} {x : Int} (h : xs[a]? = some x) : xs.drop a = x :: xs.drop (a + 1) := by
  obtain ⟨h1, rfl⟩ := List.getElem?_eq_some_iff.1 h
  exact List.drop_eq_getElem_cons h1
theorem AI.one {xs ys F T : List Int} {a b : Nat} {x : Int} (h : AI xs ys F T (a + 1) b) (hx : xs[a]? = some x) (hr : isR x = true) (hd : lv (xs.take (a + 1)) (ys.take b) = lv (xs.take a) (ys.take b) + 1) : AI xs ys (F ++ [x]) (T ++ [-1]) a b := by
  have hne := isR_ne hr
  refine ⟨by rw [un_snoc, if_neg hne, h.unF, drop_at hx], by rw [un_snoc, if_pos rfl, h.unT], by simp [h.len], ?_, mem_snoc h.okF (.inr hr), mem_snoc h.okT (.inl rfl), by have := h.la; omega, h.lb, by have := h.sz; simp; omega⟩
  rw [dif_snoc h.len, if_neg hne]
  have := h.cnt; omega
theorem AI.two {xs ys F T : List Int} {a b : Nat} {y : Int} (h : AI xs ys F T a (b + 1)) (hy : ys[b]? = some y) (hr : isR y = true) (hd : lv (xs.take a) (ys.take (b + 1)) = lv (xs.take a) (ys.take b) + 1) : AI xs ys (F ++ [-1]) (T ++ [y]) a b := by
  have hne := isR_ne hr
  refine ⟨by rw [un_snoc, if_pos rfl, h.unF], by rw [un_snoc, if_neg hne, h.unT, drop_at hy], by simp [h.len], ?_, mem_snoc h.okF (.inl rfl), mem_snoc h.okT (.inr hr), h.la, by have := h.lb; omega, by have := h.sz; simp; omega⟩
  rw [dif_snoc h.len, if_neg (fun e => hne e.symm)]
  have := h.cnt; omega
theorem AI.both {xs ys F T : List Int} {a b : Nat} {x y : Int} (h : AI xs ys F T (a + 1) (b + 1)) (hx : xs[a]? = some x) (hy : ys[b]? = some y) (h1 : isR x = true) (h2 : isR y = true) (hd1 : lv (xs.take (a + 1)) (ys.take (b + 1)) ≠ lv (xs.take a) (ys.take (b + 1)) + 1) (hd2 : lv (xs.take (a + 1)) (ys.take (b + 1)) ≠ lv (xs.take (a + 1)) (ys.take b) + 1) : AI xs ys (F ++ [x]) (T ++ [y]) a b := by
  have n1 := isR_ne h1
  have n2 := isR_ne h2
  refine ⟨by rw [un_snoc, if_neg n1, h.unF, drop_at hx], by rw [un_snoc, if_neg n2, h.unT, drop_at hy], by simp [h.len], ?_, mem_snoc h.okF (.inr h1), mem_snoc h.okT (.inr h2), by have := h.la; omega, by have := h.lb; omega, by have := h.sz; simp; omega⟩
  rw [dif_snoc h.len]
  have ex : xs.take (a + 1) = xs.take a ++ [x] := by rw [List.take_add_one, hx]; rfl
  have ey : ys.take (b + 1) = ys.take b ++ [y] := by rw [List.take_add_one, hy]; rfl
  have e := lv_snoc (xs.take a) (ys.take b) x y
  rw [← ex, ← ey] at e
  have := h.cnt; omega
theorem lv_zero_left (ys : List Int) {b : Nat} (h : b < ys.length) : lv ([] : List Int) (ys.take (b + 1)) = lv [] (ys.take b) + 1 := by
  rw [lv_left, lv_left, List.length_take, List.length_take]; omega
theorem lv_zero_right (xs : List Int) {a : Nat} (h : a < xs.length) : lv (xs.take (a + 1)) ([] : List Int) = lv (xs.take a) [] + 1 := by
  rw [lv_right, lv_right, List.length_take, List.length_take]; omega

theorem rtyRu : RTy 21 28 1 4 := ⟨Tryd.underlying28, ⟨.int .i32 0, infoRune, rfl⟩, by decide, by decide⟩
def one1 (xs : List Int) : List (List Value) := xs.map fun x => [.int .i32 x]
theorem one1_flat (xs : List Int) : (one1 xs).flatten = xs.map (Value.int .i32) := by
  induction xs with
  | nil => rfl
  | cons x r ih => simp only [one1, List.map_cons, List.flatten_cons] at ih ⊢; rw [ih]; rfl
theorem Made.gown {B : Nat} {w : World} {v : Value} {xs : List Int} (h : Made B w v xs) : GOwn 21 1 B w v (one1 xs) := by
  refine ⟨fun x hx => ?_, ?_⟩
  · obtain ⟨y, _, rfl⟩ := List.mem_map.1 hx; exact ⟨rfl, by simp [Value.oneCell']⟩
  · rw [one1_flat, show (one1 xs).length = xs.length by simp [one1]]; exact h
theorem GOwn.made {B : Nat} {w : World} {v : Value} {xs : List Int} (h : GOwn 21 1 B w v (one1 xs)) : Made B w v xs := by
  have := h.2
  rw [one1_flat, show (one1 xs).length = xs.length by simp [one1]] at this
  exact this
/-- 'append(l, x)' at runes: which blocks stay, and whose block the new row has. -/
theorem append_m {W : World} {ops : Array Oper} {rest : List Oper} {o : Oper} {a : Act} {Q : Exit → Act → World → Prop} (hgd : o.guard = none) (s y : Operand) (T2 : TypeId)
    (ho : o.op = .call { callee := .builtin .append, args := #[s, y], argTypes := #[28, 28] }) (B nb c : Nat) (v : Value) (xs : List Int) (x : Int) (hs : a.eval s = v) (hown : Made B W v xs) (hy : a.eval y = .slice (some ⟨nb, 0, none⟩) 1 c) (hnb : nb = W.heap.size) (h63 : xs.length < 1000000) (hB : B ≤ W.heap.size)
    (h : ∀ v' w', Made B w' v' (xs ++ [x]) → Below B W w' → (∀ j, j < W.heap.size → v.ownBlock ≠ some j → w'.heap[j]? = W.heap[j]?) → (v'.ownBlock = v.ownBlock ∨ ∃ g, v'.ownBlock = some g ∧ W.heap.size ≤ g) → wpList Tryd.prog ops Q rest (a.put o.dst v') w') : wpList Tryd.prog ops Q (o :: rest) a (W.alloc (.cells #[.int .i32 x] T2)) := by
  subst hnb
  have hbA : Below W.heap.size W (W.alloc (.cells #[.int .i32 x] T2)) := (Below.refl _ W).alloc (Nat.le_refl _) _
  obtain ⟨v', w', h1, h2, h3, h4⟩ := gappend_run rtyRu (hown.gown.below hbA) (by simp; omega) (x := [.int .i32 x]) ⟨rfl, by simp [Value.oneCell']⟩ (nb := W.heap.size) (fun j u hj => by
    match j, hj with
    | 0, hj => simp at hj; subst hj; exact new_cell W _ _) (by simp [one1]; omega) o.type c
  refine wpList_plain hgd fun _ hK => ?_
  unfold Oper.wp execOp
  simp only [ho, resolve, invoke, builtin, Sem.run_bind, Sem.run_pure, Result.andThen_ok, List.map_toArray, List.map_cons, List.map_nil, hs, hy, h1]
  refine hK _ _ (h v' w' ?_ (((Below.refl B W).alloc hB _).trans (gBelow (hown.gown.below hbA) h3 (by simp; omega))) (fun j hj hv => ?_) ?_)
  · have : one1 xs ++ [[.int .i32 x]] = one1 (xs ++ [x]) := by simp [one1]
    rw [this] at h2
    exact h2.made
  · rw [h3.block j (by simp; omega) (fun e => hv e.symm), Below.heap_alloc _ _ _ hj]
  · rcases h4 with h4 | ⟨g, h4, h5⟩
    · exact .inl h4
    · exact .inr ⟨g, h4, by simp at h5; omega⟩
end Go.Proofs.YtjfbildaaobfpaaDoor
