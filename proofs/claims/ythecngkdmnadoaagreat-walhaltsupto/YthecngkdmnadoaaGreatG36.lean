/- Texts that were written apart, joined. -/
import Derived.Test.YthecngkdmnadoaaGreatG35
import Derived.Handy
import Derived.Lib.SlKeysI
/- slices.Concat of two rows of numbers. -/
namespace Go.Proofs.YthecngkdmnadoaaGreat
open Go.RowKit Go.Shelf
set_option maxRecDepth 100000

/-- A row of numbers that is read: nil, or its cells hold them. -/
def NumRow (w : World) (s : Value) (xs : List Int) : Prop :=
  (s = .slice none 0 0 ∧ xs = []) ∨ ∃ (g cap : Nat), s = .slice (some ⟨g, 0, none⟩) xs.length cap ∧ g < w.heap.size ∧ ∀ j u, (xs.map (Value.int .u64))[j]? = some u → w.cell? ⟨g, j, none⟩ = some u
theorem NumRow.form {w : World} {s : Value} {xs : List Int} (h : NumRow w s xs) : ∃ (ad : Option Addr) (cap : Nat), s = .slice ad xs.length cap := by
  rcases h with ⟨rfl, rfl⟩ | ⟨g, cap, rfl, _⟩
  · exact ⟨none, 0, rfl⟩
  · exact ⟨_, cap, rfl⟩
theorem NumRow.below {w w' : World} {s : Value} {xs : List Int} (h : NumRow w s xs) (hb : Below w.heap.size w w') : NumRow w' s xs := by
  rcases h with ⟨rfl, rfl⟩ | ⟨g, cap, rfl, hg, hc⟩
  · exact .inl ⟨rfl, rfl⟩
  · exact .inr ⟨g, cap, rfl, Nat.lt_of_lt_of_le hg hb.size, fun j u hj => (hb.cell (p := ⟨g, j, none⟩) hg).trans (hc j u hj)⟩
theorem NumRow.of_own {w : World} {base k : Nat} {v : Value} {xs : List Int} (h : w.ownsRow base 22 1 v k (xs.map (Value.int .u64))) : NumRow w v xs := by
  obtain ⟨h1, h2⟩ := h
  have hk : xs.length = k := by simpa using h1
  subst hk
  rcases h2 with ⟨rfl, h0⟩ | ⟨g, cap, cur, rfl, hb, hh, h3, h4, h5, h6⟩
  · exact .inl ⟨rfl, List.eq_nil_of_length_eq_zero h0⟩
  · refine .inr ⟨g, cap, rfl, (Array.getElem?_eq_some_iff.1 hh).1, fun j u hj => ?_⟩
    rw [← h6, Nat.mul_one, List.getElem?_take] at hj
    split at hj
    · simpa [World.cell?, hh] using hj
    · cases hj
theorem uintT : (Tryz.prog.info? 22).map (fun i => (i.zero, i.size, i.bytes)) = some (some (.int .u64 0), 1, 8) := by kernel_rfl
theorem append_nums {w : World} {base k : Nat} {v s : Value} {vals : List Value} {xs : List Int} (hown : w.ownsRow base 22 1 v k vals) (hr : NumRow w s xs) (hb : base ≤ w.heap.size) (h63 : k + xs.length < 17592186044416) (ty : TypeId) :
    ∃ v' w', (Builtin.append_ #[63, 63] ty #[v, s]).run Tryz.prog w = .ok v' w' ∧ w'.ownsRow base 22 1 v' (k + xs.length) (vals ++ xs.map (Value.int .u64)) ∧ w.grownBy w' v.ownBlock := by
  obtain ⟨i0, hi, hz0, hz1, hz2⟩ := info_parts uintT
  rcases hr with ⟨rfl, rfl⟩ | ⟨g, cap, rfl, hg, hc⟩
  · refine ⟨v, w, ?_, by simpa using hown, ⟨rfl, rfl, rfl, Nat.le_refl _, fun _ _ _ => rfl⟩⟩
    obtain ⟨_, h2⟩ := hown
    rcases h2 with ⟨rfl, h0⟩ | ⟨g, cap, cur, rfl, hb, hh, h3, h4, h5, h6⟩
    · go_simp
    · go_simp
  · obtain ⟨v', w', h1, h2, h3, _⟩ := run_append_own (P := Tryz.prog) w base 63 ty 22 i0 (.int .u64 0) 1 8 Tryz.underlying63 hi hz0 hz1 hz2 rfl (by decide) v k vals hown ⟨g, 0, none⟩ xs.length cap (xs.map (Value.int .u64)) (by simp) (fun j u hj => by cases j with | zero => simpa [Addr.add] using hc 0 u hj | succ j => simpa [Addr.add] using hc (j + 1) u hj) (by intro u hu; obtain ⟨x, _, rfl⟩ := List.mem_map.1 hu; rfl) (by simp only [maxLen]; omega) (by omega) hb
    exact ⟨v', w', h1, h2, h3⟩
theorem grow_nil (n : Nat) (hn : n < 17592186044416) (w : World) : Calls Tryz.prog 79 #[.slice none 0 0, .int .i64 n] w fun e w' => ∃ v, e = .returned v ∧ w'.ownsRow w.heap.size 22 1 v 0 [] ∧ Below w.heap.size w w' := by
  obtain ⟨i0, hi, hz0, hz1, hz2⟩ := info_parts uintT
  rcases Nat.eq_zero_or_pos n with rfl | h0
  · refine (Any8.slices_Grow_room growU none 0 0 0 w (Nat.le_refl _) (by omega) (by omega) (by omega)).mono ?_
    rintro e w' ⟨rfl, rfl⟩
    exact ⟨_, rfl, World.ownsRow_nil _ _ _ _, Below.refl _ _⟩
  · refine (Any8.slices_Grow_grow growU i0 (.int .u64 0) hi hz0 (by rw [hz1]; decide) none 0 0 n [] w (Nat.le_refl _) (by omega) (by rw [hz2]; omega) (by omega) (by simp) (fun _ => rfl) (fun a h => by cases h)).mono ?_
    rintro e w' ⟨rfl, rfl⟩
    refine ⟨_, rfl, ⟨rfl, .inr ⟨_, _, _, rfl, Nat.le_refl _, World.alloc_heap_new _ _, Nat.zero_le _, ?_, ?_, rfl⟩⟩, ((Below.refl _ w).drew).alloc (Nat.le_refl _) _⟩
    · exact grownCap_le_maxLen w (0 + n) 0 _ (by unfold maxLen; omega)
    · have hge : n ≤ grownCap w n 0 (growU_ren.t 25) := grownCap_ge w n 0 _
      simp [Builtin.zeroCells, Value.cells]
      omega
theorem rowBelow {w w' : World} {base k : Nat} {v : Value} {vals : List Value} (h : w.ownsRow base 22 1 v k vals) (hb : base ≤ w.heap.size) (hg : w.grownBy w' v.ownBlock) : Below base w w' := by
  refine ⟨hg.os, hg.tape, hg.output, hg.size, fun k hk => hg.block k (by omega) fun e => ?_⟩
  rcases h.2 with ⟨rfl, _⟩ | ⟨g, cap, cur, rfl, h1, _⟩
  · cases e
  · simp only [Value.ownBlock, Option.some.injEq] at e
    omega
theorem wpList_append_run {P : Program} {ops : Array Oper} {rest : List Oper} {o : Oper} {a : Act} {w w' : World} {Q : Exit → Act → World → Prop} {v s v' : Value} (hgd : o.guard = none) (x y : Operand) (t : TypeId)
    (ho : o.op = .call { callee := .builtin .append, args := #[x, y], argTypes := #[t, t] }) (hx : a.eval x = v) (hy : a.eval y = s) (hr : (Builtin.append_ #[t, t] o.type #[v, s]).run P w = .ok v' w') (h : wpList P ops Q rest (a.put o.dst v') w') :
    wpList P ops Q (o :: rest) a w := by
  refine wpList_plain hgd fun _ hK => ?_
  unfold Oper.wp execOp
  simp only [ho, resolve, invoke, builtin, Sem.run_bind, Sem.run_pure, Result.andThen_ok, List.map_toArray, List.map_cons, List.map_nil, hx, hy, hr]
  exact hK _ _ h
set_option maxHeartbeats 8000000 in
theorem Concat_any (w : World) (vb c : Nat) (s1 s2 : Value) (xs ys : List Int) (h1 : NumRow w s1 xs) (h2 : NumRow w s2 ys) (hx : xs.length < 8796093022208) (hy : ys.length < 8796093022208) (hvb : vb < w.heap.size)
    (c0 : w.cell? ⟨vb, 0, none⟩ = some s1) (c1 : w.cell? ⟨vb, 1, none⟩ = some s2) :
    Calls Tryz.prog 61 #[.slice (some ⟨vb, 0, none⟩) 2 c] w fun e w' => ∃ v, e = .returned v ∧ w'.ownsRow w.heap.size 22 1 v (xs.length + ys.length) ((xs ++ ys).map (Value.int .u64)) ∧ Below w.heap.size w w' := by
  obtain ⟨a1, cp1, rfl⟩ := h1.form
  obtain ⟨a2, cp2, rfl⟩ := h2.form
  have H1 : Hid (NumRow w (.slice a1 xs.length cp1) xs) := h1
  have H2 : Hid (NumRow w (.slice a2 ys.length cp2) ys) := h2
  obtain ⟨n1, hn1⟩ : ∃ n1, xs.length = n1 := ⟨_, rfl⟩
  obtain ⟨n2, hn2⟩ : ∃ n2, ys.length = n2 := ⟨_, rfl⟩
  obtain ⟨n3, hn3⟩ : ∃ n3, n1 + n2 = n3 := ⟨_, rfl⟩
  have HN1 : Hid (xs.length = n1) := hn1
  have HN2 : Hid (ys.length = n2) := hn2
  have hsum : (n1 : Int) + (n2 : Int) = (n3 : Int) := by omega
  have hp1 : ¬ ((n1 : Int) < 0) := by omega
  have hp3 : ¬ ((n3 : Int) < 0) := by omega
  have hn3b : n3 < 17592186044416 := by omega
  rw [hn1] at c0
  rw [hn2] at c1
  clear h1 h2
  go_enter Tryz.func61, Tryz.ntmps61
  go_wp2
  refine wp_loop_rounds 3 ?_
  rw [rounds_succ]
  go_wp2
  rw [rounds_succ]
  go_wp2
  rw [rounds_succ]
  go_wp2_with (go_at_call 79; refine (grow_nil n3 hn3b _).mono ?_; rintro e w1 ⟨v, rfl, hr1, hB1⟩)
  obtain ⟨v2, w2, run2, row2, g2⟩ := append_nums hr1 (H1.out.below hB1) hB1.size (by omega) 63
  have B2 : Below w.heap.size w w2 := hB1.trans (rowBelow hr1 hB1.size g2)
  obtain ⟨v3, w3, run3, row3, g3⟩ := append_nums row2 (H2.out.below B2) B2.size (by omega) 63
  have B3 : Below w.heap.size w w3 := B2.trans (rowBelow row2 B2.size g3)
  have d0 := (hB1.cell (p := ⟨vb, 0, none⟩) hvb).trans c0
  have d1 := (B2.cell (p := ⟨vb, 1, none⟩) hvb).trans c1
  rw [hn1] at run2
  rw [hn2] at run3
  have HB3 : Hid (Below w.heap.size w w3) := B3
  have HR3 : Hid (w3.ownsRow w.heap.size 22 1 v3 (xs.length + ys.length) ((xs ++ ys).map (Value.int .u64))) := by
    show World.ownsRow _ _ _ _ _ _ _
    simpa using row3
  have R2 : Hid ((Builtin.append_ #[63, 63] 63 #[v, .slice a1 n1 cp1]).run Tryz.prog w1 = .ok v2 w2) := run2
  have R3 : Hid ((Builtin.append_ #[63, 63] 63 #[v2, .slice a2 n2 cp2]).run Tryz.prog w2 = .ok v3 w3) := run3
  clear B2 B3 g2 g3 row2 row3 hr1 hB1 c0 c1 H1 H2 run2 run3
  refine wp_loop_rounds 3 ?_
  rw [rounds_succ]
  go_wp2_with (at_builtin; refine wpList_append_run rfl _ _ 63 rfl rfl rfl R2.out ?_)
  rw [rounds_succ]
  go_wp2_with (at_builtin; refine wpList_append_run rfl _ _ 63 rfl rfl rfl R3.out ?_)
  rw [rounds_succ]
  go_wp2
  go_ret
  exact ⟨v3, rfl, HR3.out, HB3.out⟩
end Go.Proofs.YthecngkdmnadoaaGreat

/- slices.Compact of numbers that rise. -/
namespace Go.Proofs.YthecngkdmnadoaaGreat
open Go.RowKit Go.Sort Go.Shelf Go.Lib
set_option maxRecDepth 100000

theorem compact_up (d : Array Int) (hs : ∀ i j, i < j → j < d.size → d[i]! ≤ d[j]!) : ∀ m, m ≤ d.size → (∀ x, x ∈ compactUpTo d m ↔ ∃ j, j < m ∧ x = d[j]!) ∧ (compactUpTo d m).Pairwise (· < ·)
  | 0, _ => ⟨fun x => by simp [compactUpTo], by simp [compactUpTo]⟩
  | m + 1, hm => by
    obtain ⟨h1, h2⟩ := compact_up d hs m (by omega)
    rw [compactUpTo_succ]
    by_cases hk : keeps d m = true
    · rw [if_pos hk]
      simp only [keeps, decide_eq_true_eq] at hk
      constructor
      · intro x
        rw [List.mem_append, h1, List.mem_singleton]
        constructor
        · rintro (⟨j, hj, rfl⟩ | rfl)
          · exact ⟨j, by omega, rfl⟩
          · exact ⟨m, by omega, rfl⟩
        · rintro ⟨j, hj, rfl⟩
          by_cases e : j = m
          · exact .inr (by rw [e])
          · exact .inl ⟨j, by omega, rfl⟩
      · rw [List.pairwise_append]
        refine ⟨h2, List.pairwise_singleton _ _, fun x hx y hy => ?_⟩
        rw [List.mem_singleton] at hy
        subst hy
        obtain ⟨j, hj, rfl⟩ := (h1 x).1 hx
        rcases hk with hk | hk
        · omega
        · have a1 := hs (m - 1) m (by omega) (by omega)
          by_cases e : j = m - 1
          · subst e; omega
          · have a2 := hs j (m - 1) (by omega) (by omega)
            omega
    · rw [if_neg hk, List.append_nil]
      simp only [keeps, decide_eq_true_eq, not_or, Decidable.not_not] at hk
      refine ⟨fun x => ?_, h2⟩
      rw [h1]
      constructor
      · rintro ⟨j, hj, rfl⟩; exact ⟨j, by omega, rfl⟩
      · rintro ⟨j, hj, rfl⟩
        by_cases e : j = m
        · subst e; exact ⟨j - 1, by omega, hk.2⟩
        · exact ⟨j, by omega, rfl⟩
/-- Rising lists with the same members are the same. -/
theorem rising_eq : ∀ {A B : List Int}, A.Pairwise (· < ·) → B.Pairwise (· < ·) → (∀ x, x ∈ A ↔ x ∈ B) → A = B := by
  intro A B hA hB h
  refine List.Perm.eq_of_pairwise (le := fun a b : Int => a < b) (fun a b _ _ h1 h2 => by omega) hA hB ((List.perm_ext_iff_of_nodup (hA.imp fun h => by omega) (hB.imp fun h => by omega)).2 h)
theorem Compact_any (blk off cap : Nat) (d : Array Int) (w : World) (hH : Holds (Value.int .u64) w blk off d) (hsz : d.size ≤ 9223372036854775807) (hcap : d.size ≤ cap) :
    Calls Tryz.prog 64 #[.slice (some ⟨blk, off, none⟩) d.size cap] w fun e w' => e = .returned (.slice (some ⟨blk, off, none⟩) (compactUpTo d d.size).length cap) ∧ ∃ q, w' = putRow (Value.int .u64) (Sort.ahead w q) blk off (compactUpTo d d.size ++ List.replicate (d.size - (compactUpTo d d.size).length) 0).toArray :=
  AnyE.slices_Compact compactU (Value.int .u64) (fun _ => rfl) (EqlAt.intD _ _ _) (NeqAt.intD _ _ _) 0 (fun w => by exact Tryz.zeroValue22 w) blk off cap d w hH hsz hcap
end Go.Proofs.YthecngkdmnadoaaGreat

/- maps.Keys at map[uint64]map[int][]disk.version: the function that it hands back gives the keys, each once. -/
namespace Go.Proofs.YthecngkdmnadoaaGreat
open Go.RowKit Go.Shelf
set_option maxRecDepth 100000
attribute [local go_sem] Oper.semAt_some
namespace IterF

set_option maxHeartbeats 4000000 in
theorem keys1_stops {α : Type} {f : α → Value} {m : List (Int × α)} {bo : Option Nat} (F : Fence) (n : Nat) (hf : F.fn 92) (hro : F.round = none) (hn : 1 ≤ n) (Bm : Nat) (w : World) (hBm : Bm < w.heap.size)
    (hc : w.cell? ⟨Bm, 0, none⟩ = some (.map bo)) (hm : (keys m).Nodup)
    (hr : ∀ W, Below w.heap.size w W → ∃ ob, (Instr.range 71 (.map bo)).run Tryz.prog W = .ok (.pointer (some ⟨W.heap.size, 0, none⟩)) (W.alloc ob) ∧ Ranges .u64 f (W.alloc ob) bo W.heap.size m []) :
    SeqStopsK F n Tryz.prog 92 #[.pointer (some ⟨Bm, 0, none⟩)] (fun x : Int => #[.int .u64 x]) KeepsWalks (fun xs => xs.Perm (keys m)) (fun _ => True) m.length w := by
  intro l J Jx W hW hJ hJx hY h0
  have hcW : W.cell? ⟨Bm, 0, none⟩ = some (.map bo) := (World.cell?_of_block (a := ⟨Bm, 0, none⟩) (hW.block Bm hBm)).trans hc
  have hrW := hr W hW
  have HY : Hid (∀ pre x W1, J pre W1 → pre.length < m.length → YieldAt F (n - 1) Tryz.prog l #[.int .u64 x] W1 fun e W' => (e = .returned (.bool true) ∧ J (pre ++ [x]) W' ∧ KeepsWalks W1 W') ∨ (e = .returned (.bool false) ∧ Jx (pre ++ [x]) W')) := hY
  clear hY hr hc
  refine callsIn_of_wp Tryz.func92 rfl hf ?_ hro
  simp only [Tryz.ntmps92, List.size_toArray, List.length_cons, List.length_nil, Nat.reduceAdd, Nat.reduceSub, Array.replicate_succ, Array.replicate_zero, List.push_toArray, List.append_toArray, List.nil_append, List.cons_append]
  gi_wp2_with (first
    | (gi_at_range; refine wpListIn_range_at hrW rfl _ rfl rfl ?_; intro ob hR0)
    | gi_in)
  go_frame
  gi_loopw [3] (fun _ wr => ∃ done : List (Int × α), Ranges .u64 f wr bo W.heap.size m done ∧ J (keys done) wr) (fun _ wr => m.length - seenAt wr W.heap.size)
  case atStart => exact ⟨[], hR0, hJ [] W _ none h0 (World.grownBy_alloc W ob none) (fun r e => by cases e)⟩
  case round =>
    obtain ⟨done, hR, hJs⟩ := hrel
    gi_wp2_with (first
      | (gi_at_next; refine wpListIn_next_at hR rfl _ rfl rfl ?_ ?_)
      | gi_in)
    · intro hall
      gi_wp2
      go_end0
      exact ⟨⟨_, rfl⟩, .inl ⟨keys done, hR.perm hall hm, hJs⟩⟩
    · intro k v w2 hmem hnk hR2 hone hen
      have hJ2 : J (keys done) w2 := hJ (keys done) wr w2 (some W.heap.size) hJs hone.grown (fun r e => by cases e; exact ⟨Nat.le_refl _, hR.iter_walk⟩)
      have hs1 := hR.seen
      have hs2 := hR2.seen
      have hlen : (keys done).length < m.length := by have := hs2.2.1; simp [keys] at this ⊢; omega
      obtain ⟨fn, tmps, assign, body, hy, hRr⟩ := HY.out (keys done) k w2 hJ2 hlen
      have HS1 : Hid (seenAt wr W.heap.size = done.length ∧ done.length < m.length) := ⟨hs1.1, by simpa [keys] using hlen⟩
      clear hs1 hs2 hlen
      gi_wp2
      refine hRr.mono ?_
      rintro e W3 (⟨rfl, hJ3, hk3⟩ | ⟨rfl, hJ3⟩)
      · gi_wp2
        have hR3 := hR2.walks hk3
        go_roundw
        case rel => exact ⟨done ++ [(k, v)], hR3, by simpa [keys] using hJ3⟩
        case measure =>
          have := hR3.seen.1
          have h1 := HS1.out
          rw [this, h1.1]
          simp
          omega
      · gi_wp2
        go_returns
        exact ⟨⟨_, rfl⟩, .inr ⟨_, trivial, hJ3⟩⟩
set_option maxHeartbeats 1000000 in
theorem Keys_any (bo : Option Nat) (w : World) : Calls Tryz.prog 70 #[.map bo] w fun e w' => e = .returned (.func (.func 92) #[] #[.pointer (some ⟨w.heap.size, 0, none⟩)]) ∧ w' = w.alloc (.cells #[.map bo] 71) := by
  go_enter Tryz.func70, Tryz.ntmps70
  go_wp2
  go_ret
  exact ⟨rfl, rfl⟩
end IterF
end Go.Proofs.YthecngkdmnadoaaGreat

/- slices.Sorted at uint64. -/
namespace Go.Proofs.YthecngkdmnadoaaGreat
open Go.RowKit Go.Sort Go.Shelf
set_option maxRecDepth 100000
namespace SrtU

theorem row_at {w : World} {g : Nat} {e : TypeId} {cur : Array Value} {xs : List Int} (hb : w.heap[g]? = some (.cells cur e (0, 0))) (ht : cur.toList.take xs.length = xs.map (Value.int .u64)) : At g 0 w w xs.length xs.toArray := by
  refine ⟨fun j hj => ?_, by simp, RStep.refl _ _ _ _⟩
  have hj' : j < xs.length := by simpa using hj
  have h1 : cur[j]? = some (.int .u64 xs[j]) := by
    have : (cur.toList.take xs.length)[j]? = (xs.map (Value.int .u64))[j]? := by rw [ht]
    rw [List.getElem?_take, if_pos hj', List.getElem?_map, List.getElem?_eq_getElem hj'] at this
    simpa using this
  constructor
  · simp [World.cell?, hb, h1, hj']
  · simp [World.frozen?, hb]
theorem at_row {w0 w : World} {base g cap : Nat} {e : TypeId} {cur : Array Value} {xs : List Int} {n : Nat} (hb : w0.heap[g]? = some (.cells cur e (0, 0))) (hA : At g 0 w0 w n xs.toArray) (hbase : base ≤ g) (h1 : n ≤ cap) (h2 : cap ≤ maxLen) (h3 : cur.size = cap * 1) :
    w.ownsRow base e 1 (.slice (some ⟨g, 0, none⟩) n cap) n (xs.map (Value.int .u64)) := by
  obtain ⟨c', k1, k2, k3⟩ := hA.step.own cur e (0, 0) hb
  have hn : xs.length = n := by simpa using hA.size
  refine ⟨by simp [hn], .inr ⟨g, cap, c', rfl, hbase, k1, h1, h2, by rw [k2]; exact h3, ?_⟩⟩
  apply List.ext_getElem?
  intro j
  rw [List.getElem?_take, Nat.mul_one, List.getElem?_map]
  by_cases hj : j < n
  · rw [if_pos hj, List.getElem?_eq_getElem (by omega : j < xs.length)]
    have := (hA.holds j (by simpa [hn] using hj)).1
    simp [World.cell?, k1, show j < xs.length by omega] at this
    simpa using this
  · rw [if_neg hj, List.getElem?_eq_none (by omega)]
    rfl
theorem sorted_length (xs : List Int) : (sorted xs).length = xs.length := List.length_mergeSort _
set_option maxHeartbeats 4000000 in
theorem Sorted_any (g : Nat) (lb : Array Value) (eg : ∀ args w, (callFunc g args).run Tryz.prog w = .ok (.enter g args) w) {S Sp : List Int → Prop} {N : Nat} (w : World)
    (hseq : SeqStopsK Fence.wide 2 Tryz.prog g lb (fun x : Int => #[.int .u64 x]) KeepsWalks S Sp N w) (hN : N < 1099511627776) (hS : ∀ xs, S xs → xs.length ≤ N) :
    Calls Tryz.prog 69 #[.func (.func g) #[] lb] w fun e w' => ∃ v xs, e = .returned v ∧ S xs ∧ w'.ownsRow w.heap.size 22 1 v xs.length ((sorted xs).map (Value.int .u64)) ∧ (v = .slice none 0 0 ↔ xs = []) ∧ Below w.heap.size w w' := by
  have HC : Hid (Calls Tryz.prog 91 #[.func (.func g) #[] lb] w fun e w' => ∃ v xs, e = .returned v ∧ S xs ∧ w'.ownsRow w.heap.size 22 1 v xs.length (xs.map (Value.int .u64)) ∧ (v = .slice none 0 0 ↔ xs = []) ∧ Below w.heap.size w w') := Collect_any g lb eg w hseq hN
  have HS : Hid (∀ xs, S xs → xs.length ≤ N) := hS
  clear hseq hS
  go_enter Tryz.func69, Tryz.ntmps69
  go_wp2_with (go_at_call 91; refine HC.out.mono ?_; rintro e w1 ⟨v, xs, rfl, h1, h2, h3, h4⟩)
  have hl : xs.length ≤ N := HS.out xs h1
  obtain ⟨hr1, hr2⟩ := h2
  rcases hr2 with ⟨rfl, hn0⟩ | ⟨b, cap, cur, rfl, hb1, hb2, hb3, hb4, hb5, hb6⟩
  · have hx : xs = [] := h3.1 rfl
    subst hx
    go_wp2_with (go_at_call 63; refine (Sort_nil _).mono ?_; rintro e w2 ⟨rfl, rfl⟩)
    go_ret
    exact ⟨_, [], rfl, h1, ⟨by simp [sorted], .inl ⟨rfl, rfl⟩⟩, by simp, h4⟩
  · have hA := row_at hb2 (by simpa using hb6)
    have HA : Hid (Calls Tryz.prog 63 #[.slice (some ⟨b, 0, none⟩) xs.length cap] w1 fun e w' => e = .returned (.tuple #[]) ∧ At b 0 w1 w' xs.length (sorted xs).toArray) := by
      have := Sort_any b 0 cap xs.length xs.toArray w1 w1 hA (Array.getElem?_eq_some_iff.1 hb2).1 (by omega)
      show Calls _ _ _ _ _
      simpa using this
    clear hA
    have HR : Hid (Below w.heap.size w w1 ∧ w1.heap[b]? = some (.cells cur 22 (0, 0)) ∧ w.heap.size ≤ b ∧ xs.length ≤ cap ∧ cap ≤ maxLen ∧ cur.size = cap * 1) := ⟨h4, hb2, hb1, hb3, hb4, hb5⟩
    clear h4 hb2 hb3 hb4 hb5 hb6 hr1
    go_wp2_with (go_at_call 63; refine HA.out.mono ?_; rintro e w2 ⟨rfl, hA2⟩)
    go_ret
    obtain ⟨r1, r2, r3, r4, r5, r6⟩ := HR.out
    refine ⟨_, xs, rfl, h1, at_row r2 hA2 r3 r4 r5 r6, h3, ?_⟩
    exact ⟨hA2.step.os.trans r1.os, hA2.step.tape.trans r1.tape, hA2.step.output.trans r1.output, Nat.le_trans r1.size hA2.step.size, fun k hk => (hA2.step.block k (Nat.lt_of_lt_of_le hk r1.size) (by omega)).trans (r1.block k hk)⟩
end SrtU
end Go.Proofs.YthecngkdmnadoaaGreat

/- The keys of map[uint64]map[int][]disk.version, rising. -/
namespace Go.Proofs.YthecngkdmnadoaaGreat
open Go.RowKit Go.Shelf
set_option maxRecDepth 100000
namespace IterF

set_option maxHeartbeats 4000000 in
theorem rising_any {α : Type} {f : α → Value} {m : List (Int × α)} {bo : Option Nat} (w : World) (hm : (keys m).Nodup) (hl : m.length < 1099511627776)
    (hr : ∀ W, Below w.heap.size w W → ∃ ob, (Instr.range 71 (.map bo)).run Tryz.prog W = .ok (.pointer (some ⟨W.heap.size, 0, none⟩)) (W.alloc ob) ∧ Ranges .u64 f (W.alloc ob) bo W.heap.size m []) :
    Calls Tryz.prog 44 #[.map bo] w fun e w' => ∃ v, e = .returned v ∧ w'.ownsRow w.heap.size 22 1 v m.length ((SrtU.sorted (keys m)).map (Value.int .u64)) ∧ (v = .slice none 0 0 ↔ m = []) ∧ Below w.heap.size w w' := by
  have hB : Below w.heap.size w (w.alloc (.cells #[.map bo] 71)) := (Below.refl _ w).alloc (Nat.le_refl _) _
  have hst := keys1_stops (f := f) (m := m) (bo := bo) Fence.wide 2 trivial rfl (by omega) w.heap.size (w.alloc (.cells #[.map bo] 71)) (by simp) (by go_simp) hm (fun W hW => hr W (hB.trans (hW.mono hB.size)))
  have HC : Hid (Calls Tryz.prog 69 #[.func (.func 92) #[] #[.pointer (some ⟨w.heap.size, 0, none⟩)]] (w.alloc (.cells #[.map bo] 71)) fun e w' => ∃ v xs, e = .returned v ∧ xs.Perm (keys m) ∧ w'.ownsRow (w.alloc (.cells #[.map bo] 71)).heap.size 22 1 v xs.length ((SrtU.sorted xs).map (Value.int .u64)) ∧ (v = .slice none 0 0 ↔ xs = []) ∧ Below (w.alloc (.cells #[.map bo] 71)).heap.size (w.alloc (.cells #[.map bo] 71)) w') :=
    SrtU.Sorted_any 92 _ (enters_of Tryz.func92 (by kernel_rfl) rfl) _ hst hl (fun xs h => by rw [h.length_eq]; simp [keys])
  clear hr hst
  have HB : Hid (Below w.heap.size w (w.alloc (.cells #[.map bo] 71))) := hB
  clear hB
  go_enter Tryz.func44, Tryz.ntmps44
  go_wp2_with (first | (go_at_call 70; refine (Keys_any bo _).mono ?_; rintro e w1 ⟨rfl, rfl⟩) | (go_at_call 69; refine HC.out.mono ?_; rintro e w2 ⟨v, xs, rfl, h1, h2, h3, h4⟩))
  go_ret
  have hlen : xs.length = m.length := by rw [h1.length_eq]; simp [keys]
  have hso : SrtU.sorted xs = SrtU.sorted (keys m) := mergeSort_of_perm_i h1
  rw [hlen, hso] at h2
  refine ⟨v, rfl, ?_, ?_, HB.out.trans (h4.mono HB.out.size)⟩
  · obtain ⟨g1, g2⟩ := h2
    refine ⟨g1, g2.imp id ?_⟩
    rintro ⟨g, cap, cur, k1, k2, k3⟩
    exact ⟨g, cap, cur, k1, Nat.le_trans HB.out.size k2, k3⟩
  · rw [h3]
    constructor
    · intro hx
      subst hx
      exact List.eq_nil_of_length_eq_zero hlen.symm
    · intro hx
      subst hx
      exact List.eq_nil_of_length_eq_zero hlen
end IterF
end Go.Proofs.YthecngkdmnadoaaGreat

/- maps.Keys at map[uint64]map[int]disk.version: the function that it hands back gives the keys, each once. -/
namespace Go.Proofs.YthecngkdmnadoaaGreat
open Go.RowKit Go.Shelf
set_option maxRecDepth 100000
attribute [local go_sem] Oper.semAt_some
namespace IterL

set_option maxHeartbeats 4000000 in
theorem keys1_stops {α : Type} {f : α → Value} {m : List (Int × α)} {bo : Option Nat} (F : Fence) (n : Nat) (hf : F.fn 103) (hro : F.round = none) (hn : 1 ≤ n) (Bm : Nat) (w : World) (hBm : Bm < w.heap.size)
    (hc : w.cell? ⟨Bm, 0, none⟩ = some (.map bo)) (hm : (keys m).Nodup)
    (hr : ∀ W, Below w.heap.size w W → ∃ ob, (Instr.range 70 (.map bo)).run Tryz.prog W = .ok (.pointer (some ⟨W.heap.size, 0, none⟩)) (W.alloc ob) ∧ Ranges .u64 f (W.alloc ob) bo W.heap.size m []) :
    SeqStopsK F n Tryz.prog 103 #[.pointer (some ⟨Bm, 0, none⟩)] (fun x : Int => #[.int .u64 x]) KeepsWalks (fun xs => xs.Perm (keys m)) (fun _ => True) m.length w := by
  intro l J Jx W hW hJ hJx hY h0
  have hcW : W.cell? ⟨Bm, 0, none⟩ = some (.map bo) := (World.cell?_of_block (a := ⟨Bm, 0, none⟩) (hW.block Bm hBm)).trans hc
  have hrW := hr W hW
  have HY : Hid (∀ pre x W1, J pre W1 → pre.length < m.length → YieldAt F (n - 1) Tryz.prog l #[.int .u64 x] W1 fun e W' => (e = .returned (.bool true) ∧ J (pre ++ [x]) W' ∧ KeepsWalks W1 W') ∨ (e = .returned (.bool false) ∧ Jx (pre ++ [x]) W')) := hY
  clear hY hr hc
  refine callsIn_of_wp Tryz.func103 rfl hf ?_ hro
  simp only [Tryz.ntmps103, List.size_toArray, List.length_cons, List.length_nil, Nat.reduceAdd, Nat.reduceSub, Array.replicate_succ, Array.replicate_zero, List.push_toArray, List.append_toArray, List.nil_append, List.cons_append]
  gi_wp2_with (first
    | (gi_at_range; refine wpListIn_range_at hrW rfl _ rfl rfl ?_; intro ob hR0)
    | gi_in)
  go_frame
  gi_loopw [3] (fun _ wr => ∃ done : List (Int × α), Ranges .u64 f wr bo W.heap.size m done ∧ J (keys done) wr) (fun _ wr => m.length - seenAt wr W.heap.size)
  case atStart => exact ⟨[], hR0, hJ [] W _ none h0 (World.grownBy_alloc W ob none) (fun r e => by cases e)⟩
  case round =>
    obtain ⟨done, hR, hJs⟩ := hrel
    gi_wp2_with (first
      | (gi_at_next; refine wpListIn_next_at hR rfl _ rfl rfl ?_ ?_)
      | gi_in)
    · intro hall
      gi_wp2
      go_end0
      exact ⟨⟨_, rfl⟩, .inl ⟨keys done, hR.perm hall hm, hJs⟩⟩
    · intro k v w2 hmem hnk hR2 hone hen
      have hJ2 : J (keys done) w2 := hJ (keys done) wr w2 (some W.heap.size) hJs hone.grown (fun r e => by cases e; exact ⟨Nat.le_refl _, hR.iter_walk⟩)
      have hs1 := hR.seen
      have hs2 := hR2.seen
      have hlen : (keys done).length < m.length := by have := hs2.2.1; simp [keys] at this ⊢; omega
      obtain ⟨fn, tmps, assign, body, hy, hRr⟩ := HY.out (keys done) k w2 hJ2 hlen
      have HS1 : Hid (seenAt wr W.heap.size = done.length ∧ done.length < m.length) := ⟨hs1.1, by simpa [keys] using hlen⟩
      clear hs1 hs2 hlen
      gi_wp2
      refine hRr.mono ?_
      rintro e W3 (⟨rfl, hJ3, hk3⟩ | ⟨rfl, hJ3⟩)
      · gi_wp2
        have hR3 := hR2.walks hk3
        go_roundw
        case rel => exact ⟨done ++ [(k, v)], hR3, by simpa [keys] using hJ3⟩
        case measure =>
          have := hR3.seen.1
          have h1 := HS1.out
          rw [this, h1.1]
          simp
          omega
      · gi_wp2
        go_returns
        exact ⟨⟨_, rfl⟩, .inr ⟨_, trivial, hJ3⟩⟩
set_option maxHeartbeats 1000000 in
theorem Keys_any (bo : Option Nat) (w : World) : Calls Tryz.prog 80 #[.map bo] w fun e w' => e = .returned (.func (.func 103) #[] #[.pointer (some ⟨w.heap.size, 0, none⟩)]) ∧ w' = w.alloc (.cells #[.map bo] 70) := by
  go_enter Tryz.func80, Tryz.ntmps80
  go_wp2
  go_ret
  exact ⟨rfl, rfl⟩
end IterL
end Go.Proofs.YthecngkdmnadoaaGreat

/- The keys of map[uint64]map[int]disk.version, rising. -/
namespace Go.Proofs.YthecngkdmnadoaaGreat
open Go.RowKit Go.Shelf
set_option maxRecDepth 100000
namespace IterL

set_option maxHeartbeats 4000000 in
theorem rising_any {α : Type} {f : α → Value} {m : List (Int × α)} {bo : Option Nat} (w : World) (hm : (keys m).Nodup) (hl : m.length < 1099511627776)
    (hr : ∀ W, Below w.heap.size w W → ∃ ob, (Instr.range 70 (.map bo)).run Tryz.prog W = .ok (.pointer (some ⟨W.heap.size, 0, none⟩)) (W.alloc ob) ∧ Ranges .u64 f (W.alloc ob) bo W.heap.size m []) :
    Calls Tryz.prog 62 #[.map bo] w fun e w' => ∃ v, e = .returned v ∧ w'.ownsRow w.heap.size 22 1 v m.length ((SrtU.sorted (keys m)).map (Value.int .u64)) ∧ (v = .slice none 0 0 ↔ m = []) ∧ Below w.heap.size w w' := by
  have hB : Below w.heap.size w (w.alloc (.cells #[.map bo] 70)) := (Below.refl _ w).alloc (Nat.le_refl _) _
  have hst := keys1_stops (f := f) (m := m) (bo := bo) Fence.wide 2 trivial rfl (by omega) w.heap.size (w.alloc (.cells #[.map bo] 70)) (by simp) (by go_simp) hm (fun W hW => hr W (hB.trans (hW.mono hB.size)))
  have HC : Hid (Calls Tryz.prog 69 #[.func (.func 103) #[] #[.pointer (some ⟨w.heap.size, 0, none⟩)]] (w.alloc (.cells #[.map bo] 70)) fun e w' => ∃ v xs, e = .returned v ∧ xs.Perm (keys m) ∧ w'.ownsRow (w.alloc (.cells #[.map bo] 70)).heap.size 22 1 v xs.length ((SrtU.sorted xs).map (Value.int .u64)) ∧ (v = .slice none 0 0 ↔ xs = []) ∧ Below (w.alloc (.cells #[.map bo] 70)).heap.size (w.alloc (.cells #[.map bo] 70)) w') :=
    SrtU.Sorted_any 103 _ (enters_of Tryz.func103 (by kernel_rfl) rfl) _ hst hl (fun xs h => by rw [h.length_eq]; simp [keys])
  clear hr hst
  have HB : Hid (Below w.heap.size w (w.alloc (.cells #[.map bo] 70))) := hB
  clear hB
  go_enter Tryz.func62, Tryz.ntmps62
  go_wp2_with (first | (go_at_call 80; refine (Keys_any bo _).mono ?_; rintro e w1 ⟨rfl, rfl⟩) | (go_at_call 69; refine HC.out.mono ?_; rintro e w2 ⟨v, xs, rfl, h1, h2, h3, h4⟩))
  go_ret
  have hlen : xs.length = m.length := by rw [h1.length_eq]; simp [keys]
  have hso : SrtU.sorted xs = SrtU.sorted (keys m) := mergeSort_of_perm_i h1
  rw [hlen, hso] at h2
  refine ⟨v, rfl, ?_, ?_, HB.out.trans (h4.mono HB.out.size)⟩
  · obtain ⟨g1, g2⟩ := h2
    refine ⟨g1, g2.imp id ?_⟩
    rintro ⟨g, cap, cur, k1, k2, k3⟩
    exact ⟨g, cap, cur, k1, Nat.le_trans HB.out.size k2, k3⟩
  · rw [h3]
    constructor
    · intro hx
      subst hx
      exact List.eq_nil_of_length_eq_zero hlen.symm
    · intro hx
      subst hx
      exact List.eq_nil_of_length_eq_zero hlen
end IterL
end Go.Proofs.YthecngkdmnadoaaGreat
