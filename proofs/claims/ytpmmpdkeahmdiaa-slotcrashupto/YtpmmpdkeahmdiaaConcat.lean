/- slices.Concat of two rows of numbers. -/
import Derived.Test.YtpmmpdkeahmdiaaShelf3
namespace Go.Proofs.Ytpmmpdkeahmdiaa
open Go.RowKit Go.Shelf
set_option maxRecDepth 100000

/-- A row of numbers that is read: nil, or its cells hold them. -/
def NumRow (w : World) (s : Value) (xs : List Int) : Prop :=
  (s = .slice none 0 0 ∧ xs = []) ∨ ∃ (g cap : Nat), s = .slice (some ⟨g, 0, none⟩) xs.length cap ∧ g < w.heap.size ∧ ∀ j u, (xs.map (Value.int .u64))[j]? = some u → w.cell? ⟨g, j, none⟩ = some u
theorem NumRow.form {w : World} {s : Value} {xs : List Int} (h : NumRow w s xs) : ∃ (ad : Option Addr) (cap : Nat), s = .slice ad xs.length cap := by
  rcases h with ⟨rfl, rfl⟩ | ⟨g, cap, rfl, _⟩
  · exact ⟨none, 0, rfl⟩
  · exact ⟨_, cap, rfl⟩
theorem NumRow.below {w w' : World} {s : Value} {xs : List Int} (h : NumRow w s xs) (hb : Below w.heap.size w w') : NumRow w' s xs := by
  rcases h with ⟨rfl, rfl⟩ | ⟨g, cap, rfl, hg, hc⟩
  · exact .inl ⟨rfl, rfl⟩
  · exact .inr ⟨g, cap, rfl, Nat.lt_of_lt_of_le hg hb.size, fun j u hj => (hb.cell (p := ⟨g, j, none⟩) hg).trans (hc j u hj)⟩
theorem NumRow.of_own {w : World} {base k : Nat} {v : Value} {xs : List Int} (h : w.ownsRow base 35 1 v k (xs.map (Value.int .u64))) : NumRow w v xs := by
  obtain ⟨h1, h2⟩ := h
  have hk : xs.length = k := by simpa using h1
  subst hk
  rcases h2 with ⟨rfl, h0⟩ | ⟨g, cap, cur, rfl, hb, hh, h3, h4, h5, h6⟩
  · exact .inl ⟨rfl, List.eq_nil_of_length_eq_zero h0⟩
  · refine .inr ⟨g, cap, rfl, (Array.getElem?_eq_some_iff.1 hh).1, fun j u hj => ?_⟩
    rw [← h6, Nat.mul_one, List.getElem?_take] at hj
    split at hj
    · simpa [World.cell?, hh] using hj
    · cases hj
theorem uintT : (Try.prog.info? 35).map (fun i => (i.zero, i.size, i.bytes)) = some (some (.int .u64 0), 1, 8) := by kernel_rfl
theorem append_nums {w : World} {base k : Nat} {v s : Value} {vals : List Value} {xs : List Int} (hown : w.ownsRow base 35 1 v k vals) (hr : NumRow w s xs) (hb : base ≤ w.heap.size) (h63 : k + xs.length < 17592186044416) (ty : TypeId) :
    ∃ v' w', (Builtin.append_ #[80, 80] ty #[v, s]).run Try.prog w = .ok v' w' ∧ w'.ownsRow base 35 1 v' (k + xs.length) (vals ++ xs.map (Value.int .u64)) ∧ w.grownBy w' v.ownBlock := by
  obtain ⟨i0, hi, hz0, hz1, hz2⟩ := info_parts uintT
  rcases hr with ⟨rfl, rfl⟩ | ⟨g, cap, rfl, hg, hc⟩
  · refine ⟨v, w, ?_, by simpa using hown, ⟨rfl, rfl, rfl, Nat.le_refl _, fun _ _ _ => rfl⟩⟩
    obtain ⟨_, h2⟩ := hown
    rcases h2 with ⟨rfl, h0⟩ | ⟨g, cap, cur, rfl, hb, hh, h3, h4, h5, h6⟩
    · go_simp
    · go_simp
  · obtain ⟨v', w', h1, h2, h3, _⟩ := run_append_own (P := Try.prog) w base 80 ty 35 i0 (.int .u64 0) 1 8 Try.underlying80 hi hz0 hz1 hz2 rfl (by decide) v k vals hown ⟨g, 0, none⟩ xs.length cap (xs.map (Value.int .u64)) (by simp) (fun j u hj => by cases j with | zero => simpa [Addr.add] using hc 0 u hj | succ j => simpa [Addr.add] using hc (j + 1) u hj) (by intro u hu; obtain ⟨x, _, rfl⟩ := List.mem_map.1 hu; rfl) (by simp only [maxLen]; omega) (by omega) hb
    exact ⟨v', w', h1, h2, h3⟩
theorem grow_nil (n : Nat) (hn : n < 17592186044416) (w : World) : Calls Try.prog 87 #[.slice none 0 0, .int .i64 n] w fun e w' => ∃ v, e = .returned v ∧ w'.ownsRow w.heap.size 35 1 v 0 [] ∧ Below w.heap.size w w' := by
  obtain ⟨i0, hi, hz0, hz1, hz2⟩ := info_parts uintT
  rcases Nat.eq_zero_or_pos n with rfl | h0
  · refine (Any8.slices_Grow_room growU none 0 0 0 w (Nat.le_refl _) (by omega) (by omega) (by omega)).mono ?_
    rintro e w' ⟨rfl, rfl⟩
    exact ⟨_, rfl, World.ownsRow_nil _ _ _ _, Below.refl _ _⟩
  · refine (Any8.slices_Grow_grow growU i0 (.int .u64 0) hi hz0 (by rw [hz1]; decide) none 0 0 n [] w (Nat.le_refl _) (by omega) (by rw [hz2]; omega) (by omega) (by simp) (fun _ => rfl) (fun a h => by cases h)).mono ?_
    rintro e w' ⟨rfl, rfl⟩
    refine ⟨_, rfl, ⟨rfl, .inr ⟨_, _, _, rfl, Nat.le_refl _, World.alloc_heap_new _ _, Nat.zero_le _, ?_, ?_, rfl⟩⟩, ((Below.refl _ w).drew).alloc (Nat.le_refl _) _⟩
    · exact grownCap_le_maxLen w (0 + n) 0 _ (by unfold maxLen; omega)
    · have hge : n ≤ grownCap w n 0 (growU_ren.t 25) := grownCap_ge w n 0 _
      simp [Builtin.zeroCells, Value.cells]
      omega
theorem rowBelow {w w' : World} {base k : Nat} {v : Value} {vals : List Value} (h : w.ownsRow base 35 1 v k vals) (hb : base ≤ w.heap.size) (hg : w.grownBy w' v.ownBlock) : Below base w w' := by
  refine ⟨hg.os, hg.tape, hg.output, hg.size, fun k hk => hg.block k (by omega) fun e => ?_⟩
  rcases h.2 with ⟨rfl, _⟩ | ⟨g, cap, cur, rfl, h1, _⟩
  · cases e
  · simp only [Value.ownBlock, Option.some.injEq] at e
    omega
theorem wpList_append_run {P : Program} {ops : Array Oper} {rest : List Oper} {o : Oper} {a : Act} {w w' : World} {Q : Exit → Act → World → Prop} {v s v' : Value} (hgd : o.guard = none) (x y : Operand) (t : TypeId)
    (ho : o.op = .call { callee := .builtin .append, args := #[x, y], argTypes := #[t, t] }) (hx : a.eval x = v) (hy : a.eval y = s) (hr : (Builtin.append_ #[t, t] o.type #[v, s]).run P w = .ok v' w') (h : wpList P ops Q rest (a.put o.dst v') w') :
    wpList P ops Q (o :: rest) a w := by
  refine wpList_plain hgd fun _ hK => ?_
  unfold Oper.wp execOp
  simp only [ho, resolve, invoke, builtin, Sem.run_bind, Sem.run_pure, Result.andThen_ok, List.map_toArray, List.map_cons, List.map_nil, hx, hy, hr]
  exact hK _ _ h
set_option maxHeartbeats 8000000 in
theorem Concat_any (w : World) (vb c : Nat) (s1 s2 : Value) (xs ys : List Int) (h1 : NumRow w s1 xs) (h2 : NumRow w s2 ys) (hx : xs.length < 8796093022208) (hy : ys.length < 8796093022208) (hvb : vb < w.heap.size)
    (c0 : w.cell? ⟨vb, 0, none⟩ = some s1) (c1 : w.cell? ⟨vb, 1, none⟩ = some s2) :
    Calls Try.prog 69 #[.slice (some ⟨vb, 0, none⟩) 2 c] w fun e w' => ∃ v, e = .returned v ∧ w'.ownsRow w.heap.size 35 1 v (xs.length + ys.length) ((xs ++ ys).map (Value.int .u64)) ∧ Below w.heap.size w w' := by
  obtain ⟨a1, cp1, rfl⟩ := h1.form
  obtain ⟨a2, cp2, rfl⟩ := h2.form
  have H1 : Hid (NumRow w (.slice a1 xs.length cp1) xs) := h1
  have H2 : Hid (NumRow w (.slice a2 ys.length cp2) ys) := h2
  obtain ⟨n1, hn1⟩ : ∃ n1, xs.length = n1 := ⟨_, rfl⟩
  obtain ⟨n2, hn2⟩ : ∃ n2, ys.length = n2 := ⟨_, rfl⟩
  obtain ⟨n3, hn3⟩ : ∃ n3, n1 + n2 = n3 := ⟨_, rfl⟩
  have HN1 : Hid (xs.length = n1) := hn1
  have HN2 : Hid (ys.length = n2) := hn2
  have hsum : (n1 : Int) + (n2 : Int) = (n3 : Int) := by omega
  have hp1 : ¬ ((n1 : Int) < 0) := by omega
  have hp3 : ¬ ((n3 : Int) < 0) := by omega
  have hn3b : n3 < 17592186044416 := by omega
  rw [hn1] at c0
  rw [hn2] at c1
  clear h1 h2
  go_enter Try.func69, Try.ntmps69
  go_wp2
  refine wp_loop_rounds 3 ?_
  rw [rounds_succ]
  go_wp2
  rw [rounds_succ]
  go_wp2
  rw [rounds_succ]
  go_wp2_with (go_at_call 87; refine (grow_nil n3 hn3b _).mono ?_; rintro e w1 ⟨v, rfl, hr1, hB1⟩)
  obtain ⟨v2, w2, run2, row2, g2⟩ := append_nums hr1 (H1.out.below hB1) hB1.size (by omega) 80
  have B2 : Below w.heap.size w w2 := hB1.trans (rowBelow hr1 hB1.size g2)
  obtain ⟨v3, w3, run3, row3, g3⟩ := append_nums row2 (H2.out.below B2) B2.size (by omega) 80
  have B3 : Below w.heap.size w w3 := B2.trans (rowBelow row2 B2.size g3)
  have d0 := (hB1.cell (p := ⟨vb, 0, none⟩) hvb).trans c0
  have d1 := (B2.cell (p := ⟨vb, 1, none⟩) hvb).trans c1
  rw [hn1] at run2
  rw [hn2] at run3
  have HB3 : Hid (Below w.heap.size w w3) := B3
  have HR3 : Hid (w3.ownsRow w.heap.size 35 1 v3 (xs.length + ys.length) ((xs ++ ys).map (Value.int .u64))) := by
    show World.ownsRow _ _ _ _ _ _ _
    simpa using row3
  have R2 : Hid ((Builtin.append_ #[80, 80] 80 #[v, .slice a1 n1 cp1]).run Try.prog w1 = .ok v2 w2) := run2
  have R3 : Hid ((Builtin.append_ #[80, 80] 80 #[v2, .slice a2 n2 cp2]).run Try.prog w2 = .ok v3 w3) := run3
  clear B2 B3 g2 g3 row2 row3 hr1 hB1 c0 c1 H1 H2 run2 run3
  refine wp_loop_rounds 3 ?_
  rw [rounds_succ]
  go_wp2_with (at_builtin; refine wpList_append_run rfl _ _ 80 rfl rfl rfl R2.out ?_)
  rw [rounds_succ]
  go_wp2_with (at_builtin; refine wpList_append_run rfl _ _ 80 rfl rfl rfl R3.out ?_)
  rw [rounds_succ]
  go_wp2
  go_ret
  exact ⟨v3, rfl, HR3.out, HB3.out⟩
end Go.Proofs.Ytpmmpdkeahmdiaa
