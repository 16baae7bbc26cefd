/- Texts that were written apart, joined. -/
import Derived.Shelf.Lay
import Derived.Shelf.Spec.SlicesGrow
import Derived.Shelf.SlicesE.Compact
import Derived.Ground.SlgnProg
import Derived.Test.YthecngkdmnadoaaGreatG09
import Derived.Test.YthecngkdmnadoaaGreatG10
import Derived.Test.YthecngkdmnadoaaGreatG03
import Derived.RegionTactic
import Derived.BigQuiet
import Derived.Deep.QuietTactic
/- slices.Grow and slices.Compact at uint64, off the shelf. -/
namespace Go.Proofs.YthecngkdmnadoaaGreat
open Go.RowKit Go.Shelf
set_option maxRecDepth 100000
shelf_lay_g Lays8.n4 Nm8 4 at Tryz 79 as growU
shelf_lay_g SlLaysE.n43 Slgn 43 at Tryz 64 as compactU
end Go.Proofs.YthecngkdmnadoaaGreat

/- slices.Concat of two rows of numbers. -/
namespace Go.Proofs.YthecngkdmnadoaaGreat
open Go.RowKit Go.Shelf
set_option maxRecDepth 100000

/-- A row of numbers that is read: nil, or its cells hold them. -/
def NumRow (w : World) (s : Value) (xs : List Int) : Prop :=
  (s = .slice none 0 0 ∧ xs = []) ∨ ∃ (g cap : Nat), s = .slice (some ⟨g, 0, none⟩) xs.length cap ∧ g < w.heap.size ∧ ∀ j u, (xs.map (Value.int .u64))[j]? = some u → w.cell? ⟨g, j, none⟩ = some u
theorem NumRow.form {w : World} {s : Value} {xs : List Int} (h : NumRow w s xs) : ∃ (ad : Option Addr) (cap : Nat), s = .slice ad xs.length cap := by
  rcases h with ⟨rfl, rfl⟩ | ⟨g, cap, rfl, _⟩
  · exact ⟨none, 0, rfl⟩
  · exact ⟨_, cap, rfl⟩
theorem NumRow.below {w w' : World} {s : Value} {xs : List Int} (h : NumRow w s xs) (hb : Below w.heap.size w w') : NumRow w' s xs := by
  rcases h with ⟨rfl, rfl⟩ | ⟨g, cap, rfl, hg, hc⟩
  · exact .inl ⟨rfl, rfl⟩
  · exact .inr ⟨g, cap, rfl, Nat.lt_of_lt_of_le hg hb.size, fun j u hj => (hb.cell (p := ⟨g, j, none⟩) hg).trans (hc j u hj)⟩
theorem NumRow.of_own {w : World} {base k : Nat} {v : Value} {xs : List Int} (h : w.ownsRow base 22 1 v k (xs.map (Value.int .u64))) : NumRow w v xs := by
  obtain ⟨h1, h2⟩ := h
  have hk : xs.length = k := by simpa using h1
  subst hk
  rcases h2 with ⟨rfl, h0⟩ | ⟨g, cap, cur, rfl, hb, hh, h3, h4, h5, h6⟩
  · exact .inl ⟨rfl, List.eq_nil_of_length_eq_zero h0⟩
  · refine .inr ⟨g, cap, rfl, (Array.getElem?_eq_some_iff.1 hh).1, fun j u hj => ?_⟩
    rw [← h6, Nat.mul_one, List.getElem?_take] at hj
    split at hj
    · simpa [World.cell?, hh] using hj
    · cases hj
theorem uintT : (Tryz.prog.info? 22).map (fun i => (i.zero, i.size, i.bytes)) = some (some (.int .u64 0), 1, 8) := by kernel_rfl
theorem append_nums {w : World} {base k : Nat} {v s : Value} {vals : List Value} {xs : List Int} (hown : w.ownsRow base 22 1 v k vals) (hr : NumRow w s xs) (hb : base ≤ w.heap.size) (h63 : k + xs.length < 17592186044416) (ty : TypeId) :
    ∃ v' w', (Builtin.append_ #[63, 63] ty #[v, s]).run Tryz.prog w = .ok v' w' ∧ w'.ownsRow base 22 1 v' (k + xs.length) (vals ++ xs.map (Value.int .u64)) ∧ w.grownBy w' v.ownBlock := by
  obtain ⟨i0, hi, hz0, hz1, hz2⟩ := info_parts uintT
  rcases hr with ⟨rfl, rfl⟩ | ⟨g, cap, rfl, hg, hc⟩
  · refine ⟨v, w, ?_, by simpa using hown, ⟨rfl, rfl, rfl, Nat.le_refl _, fun _ _ _ => rfl⟩⟩
    obtain ⟨_, h2⟩ := hown
    rcases h2 with ⟨rfl, h0⟩ | ⟨g, cap, cur, rfl, hb, hh, h3, h4, h5, h6⟩
    · go_simp
    · go_simp
  · obtain ⟨v', w', h1, h2, h3, _⟩ := run_append_own (P := Tryz.prog) w base 63 ty 22 i0 (.int .u64 0) 1 8 Tryz.underlying63 hi hz0 hz1 hz2 rfl (by decide) v k vals hown ⟨g, 0, none⟩ xs.length cap (xs.map (Value.int .u64)) (by simp) (fun j u hj => by cases j with | zero => simpa [Addr.add] using hc 0 u hj | succ j => simpa [Addr.add] using hc (j + 1) u hj) (by intro u hu; obtain ⟨x, _, rfl⟩ := List.mem_map.1 hu; rfl) (by simp only [maxLen]; omega) (by omega) hb
    exact ⟨v', w', h1, h2, h3⟩
theorem grow_nil (n : Nat) (hn : n < 17592186044416) (w : World) : Calls Tryz.prog 79 #[.slice none 0 0, .int .i64 n] w fun e w' => ∃ v, e = .returned v ∧ w'.ownsRow w.heap.size 22 1 v 0 [] ∧ Below w.heap.size w w' := by
  obtain ⟨i0, hi, hz0, hz1, hz2⟩ := info_parts uintT
  rcases Nat.eq_zero_or_pos n with rfl | h0
  · refine (Any8.slices_Grow_room growU none 0 0 0 w (Nat.le_refl _) (by omega) (by omega) (by omega)).mono ?_
    rintro e w' ⟨rfl, rfl⟩
    exact ⟨_, rfl, World.ownsRow_nil _ _ _ _, Below.refl _ _⟩
  · refine (Any8.slices_Grow_grow growU i0 (.int .u64 0) hi hz0 (by rw [hz1]; decide) none 0 0 n [] w (Nat.le_refl _) (by omega) (by rw [hz2]; omega) (by omega) (by simp) (fun _ => rfl) (fun a h => by cases h)).mono ?_
    rintro e w' ⟨rfl, rfl⟩
    refine ⟨_, rfl, ⟨rfl, .inr ⟨_, _, _, rfl, Nat.le_refl _, World.alloc_heap_new _ _, Nat.zero_le _, ?_, ?_, rfl⟩⟩, ((Below.refl _ w).drew).alloc (Nat.le_refl _) _⟩
    · exact grownCap_le_maxLen w (0 + n) 0 _ (by unfold maxLen; omega)
    · have hge : n ≤ grownCap w n 0 (growU_ren.t 25) := grownCap_ge w n 0 _
      simp [Builtin.zeroCells, Value.cells]
      omega
theorem rowBelow {w w' : World} {base k : Nat} {v : Value} {vals : List Value} (h : w.ownsRow base 22 1 v k vals) (hb : base ≤ w.heap.size) (hg : w.grownBy w' v.ownBlock) : Below base w w' := by
  refine ⟨hg.os, hg.tape, hg.output, hg.size, fun k hk => hg.block k (by omega) fun e => ?_⟩
  rcases h.2 with ⟨rfl, _⟩ | ⟨g, cap, cur, rfl, h1, _⟩
  · cases e
  · simp only [Value.ownBlock, Option.some.injEq] at e
    omega
theorem wpList_append_run {P : Program} {ops : Array Oper} {rest : List Oper} {o : Oper} {a : Act} {w w' : World} {Q : Exit → Act → World → Prop} {v s v' : Value} (hgd : o.guard = none) (x y : Operand) (t : TypeId)
    (ho : o.op = .call { callee := .builtin .append, args := #[x, y], argTypes := #[t, t] }) (hx : a.eval x = v) (hy : a.eval y = s) (hr : (Builtin.append_ #[t, t] o.type #[v, s]).run P w = .ok v' w') (h : wpList P ops Q rest (a.put o.dst v') w') :
    wpList P ops Q (o :: rest) a w := by
  refine wpList_plain hgd fun _ hK => ?_
  unfold Oper.wp execOp
  simp only [ho, resolve, invoke, builtin, Sem.run_bind, Sem.run_pure, Result.andThen_ok, List.map_toArray, List.map_cons, List.map_nil, hx, hy, hr]
  exact hK _ _ h
set_option maxHeartbeats 8000000 in
theorem Concat_any (w : World) (vb c : Nat) (s1 s2 : Value) (xs ys : List Int) (h1 : NumRow w s1 xs) (h2 : NumRow w s2 ys) (hx : xs.length < 8796093022208) (hy : ys.length < 8796093022208) (hvb : vb < w.heap.size)
    (c0 : w.cell? ⟨vb, 0, none⟩ = some s1) (c1 : w.cell? ⟨vb, 1, none⟩ = some s2) :
    Calls Tryz.prog 61 #[.slice (some ⟨vb, 0, none⟩) 2 c] w fun e w' => ∃ v, e = .returned v ∧ w'.ownsRow w.heap.size 22 1 v (xs.length + ys.length) ((xs ++ ys).map (Value.int .u64)) ∧ Below w.heap.size w w' := by
  obtain ⟨a1, cp1, rfl⟩ := h1.form
  obtain ⟨a2, cp2, rfl⟩ := h2.form
  have H1 : Hid (NumRow w (.slice a1 xs.length cp1) xs) := h1
  have H2 : Hid (NumRow w (.slice a2 ys.length cp2) ys) := h2
  obtain ⟨n1, hn1⟩ : ∃ n1, xs.length = n1 := ⟨_, rfl⟩
  obtain ⟨n2, hn2⟩ : ∃ n2, ys.length = n2 := ⟨_, rfl⟩
  obtain ⟨n3, hn3⟩ : ∃ n3, n1 + n2 = n3 := ⟨_, rfl⟩
  have HN1 : Hid (xs.length = n1) := hn1
  have HN2 : Hid (ys.length = n2) := hn2
  have hsum : (n1 : Int) + (n2 : Int) = (n3 : Int) := by omega
  have hp1 : ¬ ((n1 : Int) < 0) := by omega
  have hp3 : ¬ ((n3 : Int) < 0) := by omega
  have hn3b : n3 < 17592186044416 := by omega
  rw [hn1] at c0
  rw [hn2] at c1
  clear h1 h2
  go_enter Tryz.func61, Tryz.ntmps61
  go_wp2
  refine wp_loop_rounds 3 ?_
  rw [rounds_succ]
  go_wp2
  rw [rounds_succ]
  go_wp2
  rw [rounds_succ]
  go_wp2_with (go_at_call 79; refine (grow_nil n3 hn3b _).mono ?_; rintro e w1 ⟨v, rfl, hr1, hB1⟩)
  obtain ⟨v2, w2, run2, row2, g2⟩ := append_nums hr1 (H1.out.below hB1) hB1.size (by omega) 63
  have B2 : Below w.heap.size w w2 := hB1.trans (rowBelow hr1 hB1.size g2)
  obtain ⟨v3, w3, run3, row3, g3⟩ := append_nums row2 (H2.out.below B2) B2.size (by omega) 63
  have B3 : Below w.heap.size w w3 := B2.trans (rowBelow row2 B2.size g3)
  have d0 := (hB1.cell (p := ⟨vb, 0, none⟩) hvb).trans c0
  have d1 := (B2.cell (p := ⟨vb, 1, none⟩) hvb).trans c1
  rw [hn1] at run2
  rw [hn2] at run3
  have HB3 : Hid (Below w.heap.size w w3) := B3
  have HR3 : Hid (w3.ownsRow w.heap.size 22 1 v3 (xs.length + ys.length) ((xs ++ ys).map (Value.int .u64))) := by
    show World.ownsRow _ _ _ _ _ _ _
    simpa using row3
  have R2 : Hid ((Builtin.append_ #[63, 63] 63 #[v, .slice a1 n1 cp1]).run Tryz.prog w1 = .ok v2 w2) := run2
  have R3 : Hid ((Builtin.append_ #[63, 63] 63 #[v2, .slice a2 n2 cp2]).run Tryz.prog w2 = .ok v3 w3) := run3
  clear B2 B3 g2 g3 row2 row3 hr1 hB1 c0 c1 H1 H2 run2 run3
  refine wp_loop_rounds 3 ?_
  rw [rounds_succ]
  go_wp2_with (at_builtin; refine wpList_append_run rfl _ _ 63 rfl rfl rfl R2.out ?_)
  rw [rounds_succ]
  go_wp2_with (at_builtin; refine wpList_append_run rfl _ _ 63 rfl rfl rfl R3.out ?_)
  rw [rounds_succ]
  go_wp2
  go_ret
  exact ⟨v3, rfl, HR3.out, HB3.out⟩
end Go.Proofs.YthecngkdmnadoaaGreat

/- slices.Compact of numbers that rise. -/
namespace Go.Proofs.YthecngkdmnadoaaGreat
open Go.RowKit Go.Sort Go.Shelf Go.Lib
set_option maxRecDepth 100000

theorem compact_up (d : Array Int) (hs : ∀ i j, i < j → j < d.size → d[i]! ≤ d[j]!) : ∀ m, m ≤ d.size → (∀ x, x ∈ compactUpTo d m ↔ ∃ j, j < m ∧ x = d[j]!) ∧ (compactUpTo d m).Pairwise (· < ·)
  | 0, _ => ⟨fun x => by simp [compactUpTo], by simp [compactUpTo]⟩
  | m + 1, hm => by
    obtain ⟨h1, h2⟩ := compact_up d hs m (by omega)
    rw [compactUpTo_succ]
    by_cases hk : keeps d m = true
    · rw [if_pos hk]
      simp only [keeps, decide_eq_true_eq] at hk
      constructor
      · intro x
        rw [List.mem_append, h1, List.mem_singleton]
        constructor
        · rintro (⟨j, hj, rfl⟩ | rfl)
          · exact ⟨j, by omega, rfl⟩
          · exact ⟨m, by omega, rfl⟩
        · rintro ⟨j, hj, rfl⟩
          by_cases e : j = m
          · exact .inr (by rw [e])
          · exact .inl ⟨j, by omega, rfl⟩
      · rw [List.pairwise_append]
        refine ⟨h2, List.pairwise_singleton _ _, fun x hx y hy => ?_⟩
        rw [List.mem_singleton] at hy
        subst hy
        obtain ⟨j, hj, rfl⟩ := (h1 x).1 hx
        rcases hk with hk | hk
        · omega
        · have a1 := hs (m - 1) m (by omega) (by omega)
          by_cases e : j = m - 1
          · subst e; omega
          · have a2 := hs j (m - 1) (by omega) (by omega)
            omega
    · rw [if_neg hk, List.append_nil]
      simp only [keeps, decide_eq_true_eq, not_or, Decidable.not_not] at hk
      refine ⟨fun x => ?_, h2⟩
      rw [h1]
      constructor
      · rintro ⟨j, hj, rfl⟩; exact ⟨j, by omega, rfl⟩
      · rintro ⟨j, hj, rfl⟩
        by_cases e : j = m
        · subst e; exact ⟨j - 1, by omega, hk.2⟩
        · exact ⟨j, by omega, rfl⟩
/-- Rising lists with the same members are the same. -/
theorem rising_eq : ∀ {A B : List Int}, A.Pairwise (· < ·) → B.Pairwise (· < ·) → (∀ x, x ∈ A ↔ x ∈ B) → A = B := by
  intro A B hA hB h
  refine List.Perm.eq_of_pairwise (le := fun a b : Int => a < b) (fun a b _ _ h1 h2 => by omega) hA hB ((List.perm_ext_iff_of_nodup (hA.imp fun h => by omega) (hB.imp fun h => by omega)).2 h)
theorem Compact_any (blk off cap : Nat) (d : Array Int) (w : World) (hH : Holds (Value.int .u64) w blk off d) (hsz : d.size ≤ 9223372036854775807) (hcap : d.size ≤ cap) :
    Calls Tryz.prog 64 #[.slice (some ⟨blk, off, none⟩) d.size cap] w fun e w' => e = .returned (.slice (some ⟨blk, off, none⟩) (compactUpTo d d.size).length cap) ∧ ∃ q, w' = putRow (Value.int .u64) (Sort.ahead w q) blk off (compactUpTo d d.size ++ List.replicate (d.size - (compactUpTo d d.size).length) 0).toArray :=
  AnyE.slices_Compact compactU (Value.int .u64) (fun _ => rfl) (EqlAt.intD _ _ _) (NeqAt.intD _ _ _) 0 (fun w => by exact Tryz.zeroValue22 w) blk off cap d w hH hsz hcap
end Go.Proofs.YthecngkdmnadoaaGreat

/- Sectors in their order: written, synced, freed. -/
namespace Go.Proofs.YthecngkdmnadoaaGreat
open Go.RowKit
set_option maxRecDepth 100000

theorem before_trans {s t u : Sec} (h : s.before t) (k : t.before u) : s.before u := by
  unfold Sec.before at *; omega
/-- The sectors with a version more at a, n. -/
def wr (a n : Int) (v : List Nat) : List Sec → List Sec
  | [] => [⟨a, n, none, [v]⟩]
  | s :: r => if s.area = a ∧ s.n = n then { s with fresh := s.fresh ++ [v] } :: r else if a < s.area ∨ (a = s.area ∧ n < s.n) then ⟨a, n, none, [v]⟩ :: s :: r else s :: wr a n v r
theorem findS_none_of {a n : Int} {S : List Sec} (h : ∀ s ∈ S, ¬ (s.area = a ∧ s.n = n)) : findS a n S = none := by
  induction S with
  | nil => rfl
  | cons s r ih => rw [findS, if_neg (h s (.head _))]; exact ih fun t ht => h t (.tail _ ht)
theorem findS_at {a n : Int} {S : List Sec} {s : Sec} (h : findS a n S = some s) : s.area = a ∧ s.n = n := by
  induction S with
  | nil => simp [findS] at h
  | cons t r ih =>
    rw [findS] at h
    split at h
    · rename_i ht; rw [← Option.some.inj h]; exact ht
    · exact ih h
theorem findS_self {S : List Sec} (hs : S.Pairwise Sec.before) {s : Sec} (h : s ∈ S) : findS s.area s.n S = some s := by
  induction S with
  | nil => cases h
  | cons t r ih =>
    obtain ⟨h1, h2⟩ := List.pairwise_cons.1 hs
    rcases List.mem_cons.1 h with rfl | h
    · rw [findS, if_pos ⟨rfl, rfl⟩]
    · have := h1 s h
      rw [findS, if_neg (fun e => by unfold Sec.before at this; omega)]
      exact ih h2 h
theorem wr_mem {a n : Int} {v : List Nat} {S : List Sec} {t : Sec} (h : t ∈ wr a n v S) : t ∈ S ∨ (t.area = a ∧ t.n = n ∧ ((t.last = none ∧ t.fresh = [v]) ∨ ∃ s ∈ S, t.last = s.last ∧ t.fresh = s.fresh ++ [v])) := by
  induction S with
  | nil => simp [wr] at h; subst h; exact .inr ⟨rfl, rfl, .inl ⟨rfl, rfl⟩⟩
  | cons s r ih =>
    rw [wr] at h
    split at h
    · rename_i he
      rcases List.mem_cons.1 h with rfl | h
      · exact .inr ⟨he.1, he.2, .inr ⟨s, .head _, rfl, rfl⟩⟩
      · exact .inl (.tail _ h)
    · split at h
      · rcases List.mem_cons.1 h with rfl | h
        · exact .inr ⟨rfl, rfl, .inl ⟨rfl, rfl⟩⟩
        · exact .inl h
      · rcases List.mem_cons.1 h with rfl | h
        · exact .inl (.head _)
        · rcases ih h with h | ⟨h1, h2, h3 | ⟨s', hs', h3⟩⟩
          · exact .inl (.tail _ h)
          · exact .inr ⟨h1, h2, .inl h3⟩
          · exact .inr ⟨h1, h2, .inr ⟨s', .tail _ hs', h3⟩⟩
theorem wr_sorted {a n : Int} {v : List Nat} {S : List Sec} (hs : S.Pairwise Sec.before) : (wr a n v S).Pairwise Sec.before := by
  induction S with
  | nil => simp [wr]
  | cons s r ih =>
    obtain ⟨h1, h2⟩ := List.pairwise_cons.1 hs
    rw [wr]
    split
    · exact List.pairwise_cons.2 ⟨fun t ht => h1 t ht, h2⟩
    · split
      · rename_i hb
        refine List.pairwise_cons.2 ⟨fun t ht => ?_, hs⟩
        have hsb : (⟨a, n, none, [v]⟩ : Sec).before s := hb
        rcases List.mem_cons.1 ht with rfl | ht
        · exact hsb
        · exact before_trans hsb (h1 t ht)
      · rename_i hne hnb
        refine List.pairwise_cons.2 ⟨fun t ht => ?_, ih h2⟩
        rcases wr_mem ht with ht | ⟨e1, e2, _⟩
        · exact h1 t ht
        · unfold Sec.before; omega
/-- The sector behind a write. -/
def wrS (a n : Int) (v : List Nat) (o : Option Sec) : Sec := match o with | some s => { s with fresh := s.fresh ++ [v] } | none => ⟨a, n, none, [v]⟩
theorem find_wr {a n : Int} {v : List Nat} {S : List Sec} (hs : S.Pairwise Sec.before) (a' n' : Int) : findS a' n' (wr a n v S) = if a' = a ∧ n' = n then some (wrS a n v (findS a n S)) else findS a' n' S := by
  induction S with
  | nil =>
    by_cases h : a' = a ∧ n' = n
    · rw [if_pos h]
      show (if a = a' ∧ n = n' then _ else _) = _
      rw [if_pos ⟨h.1.symm, h.2.symm⟩]; rfl
    · rw [if_neg h]
      show (if a = a' ∧ n = n' then _ else _) = _
      rw [if_neg (fun e => h ⟨e.1.symm, e.2.symm⟩)]
  | cons s r ih =>
    obtain ⟨h1, h2⟩ := List.pairwise_cons.1 hs
    rw [wr]
    by_cases he : s.area = a ∧ s.n = n
    · rw [if_pos he]
      by_cases h : a' = a ∧ n' = n
      · rw [if_pos h, findS, if_pos ⟨he.1.trans h.1.symm, he.2.trans h.2.symm⟩, findS, if_pos he]; rfl
      · rw [if_neg h, findS, if_neg (fun e => h ⟨e.1.symm.trans he.1, e.2.symm.trans he.2⟩), findS, if_neg (fun e => h ⟨e.1.symm.trans he.1, e.2.symm.trans he.2⟩)]
    · rw [if_neg he]
      by_cases hb : a < s.area ∨ (a = s.area ∧ n < s.n)
      · rw [if_pos hb]
        have hnone : findS a n (s :: r) = none := by
          refine findS_none_of fun t ht e => ?_
          rcases List.mem_cons.1 ht with rfl | ht
          · exact he e
          · have := h1 t ht
            unfold Sec.before at this
            omega
        rw [hnone]
        by_cases h : a' = a ∧ n' = n
        · rw [if_pos h, findS, if_pos ⟨h.1.symm, h.2.symm⟩]; rfl
        · rw [if_neg h, findS, if_neg (fun e => h ⟨e.1.symm, e.2.symm⟩)]
      · rw [if_neg hb]
        have e2 : findS a n (s :: r) = findS a n r := by rw [findS, if_neg he]
        rw [e2, findS, ih h2]
        by_cases h : a' = a ∧ n' = n
        · rw [if_pos h, if_pos h, if_neg (fun e => he ⟨e.1.trans h.1, e.2.trans h.2⟩)]
        · rw [if_neg h, if_neg h, findS]
theorem wr_len {a n : Int} {v : List Nat} {S : List Sec} (hs : S.Pairwise Sec.before) : (wr a n v S).length = if (findS a n S).isSome then S.length else S.length + 1 := by
  induction S with
  | nil => rfl
  | cons s r ih =>
    obtain ⟨h1, h2⟩ := List.pairwise_cons.1 hs
    rw [wr]
    by_cases he : s.area = a ∧ s.n = n
    · rw [if_pos he, findS, if_pos he]; rfl
    · rw [if_neg he, findS, if_neg he]
      by_cases hb : a < s.area ∨ (a = s.area ∧ n < s.n)
      · rw [if_pos hb, findS_none_of (fun t ht e => by have := h1 t ht; unfold Sec.before at this; omega)]; rfl
      · rw [if_neg hb, List.length_cons, ih h2]
        split <;> rfl
/-- The sectors of an area synced. -/
def syS (s : Sec) : Sec := { s with last := s.cur, fresh := [] }
def sy (a : Int) (S : List Sec) : List Sec := S.map fun s => if s.area = a then syS s else s
def fr (a : Int) (S : List Sec) : List Sec := S.filter fun s => s.area ≠ a
theorem find_sy (a a' n' : Int) (S : List Sec) : findS a' n' (sy a S) = (findS a' n' S).map fun s => if s.area = a then syS s else s := by
  induction S with
  | nil => rfl
  | cons s r ih =>
    have e : (if s.area = a then syS s else s).area = s.area ∧ (if s.area = a then syS s else s).n = s.n := by split <;> exact ⟨rfl, rfl⟩
    rw [sy, List.map_cons, findS, findS, e.1, e.2]
    split
    · rfl
    · exact ih
theorem find_fr (a a' n' : Int) (S : List Sec) : findS a' n' (fr a S) = if a' = a then none else findS a' n' S := by
  induction S with
  | nil => simp [fr, findS]
  | cons s r ih =>
    by_cases h : s.area = a
    · rw [fr, List.filter_cons_of_neg (by simpa using h)]
      have ih' : findS a' n' (r.filter fun s => s.area ≠ a) = _ := ih
      rw [ih']
      by_cases e : a' = a
      · rw [if_pos e, if_pos e]
      · rw [if_neg e, if_neg e, findS, if_neg (fun e2 => e (e2.1.symm.trans h))]
    · rw [fr, List.filter_cons_of_pos (by simpa using h), findS, findS]
      have ih' : findS a' n' (r.filter fun s => s.area ≠ a) = _ := ih
      rw [ih']
      by_cases e : s.area = a' ∧ s.n = n'
      · rw [if_pos e, if_pos e, if_neg (fun e2 => h (e.1.trans e2))]
      · rw [if_neg e, if_neg e]
theorem sy_sorted {a : Int} {S : List Sec} (hs : S.Pairwise Sec.before) : (sy a S).Pairwise Sec.before := by
  rw [sy, List.pairwise_map]
  refine hs.imp fun {s t} h => ?_
  unfold Sec.before at *
  split <;> split <;> exact h
theorem fr_sorted {a : Int} {S : List Sec} (hs : S.Pairwise Sec.before) : (fr a S).Pairwise Sec.before := hs.filter _
end Go.Proofs.YthecngkdmnadoaaGreat

/- The disk's small calls: New, Dead, Steps, Room, Arm, and a step. -/
namespace Go.Proofs.YthecngkdmnadoaaGreat
open Go.RowKit
set_option maxRecDepth 100000

/-- The eight cells of a disk. -/
def dC (r t s : Int) (d a : Bool) (h : Int) (lb fb : Nat) : Obj := .cells #[.int .i64 r, .int .i64 t, .int .i64 s, .bool d, .bool a, .int .i64 h, .map (some lb), .map (some fb)] 73 (0, 0)
theorem disk_cells {w : World} {p : Nat} {r t s h : Int} {d a : Bool} {lb fb : Nat} (hb : w.heap[p]? = some (dC r t s d a h lb fb)) :
    w.cell? ⟨p, 0, none⟩ = some (.int .i64 r) ∧ w.cell? ⟨p, 1, none⟩ = some (.int .i64 t) ∧ w.cell? ⟨p, 2, none⟩ = some (.int .i64 s) ∧ w.cell? ⟨p, 3, none⟩ = some (.bool d) ∧ w.cell? ⟨p, 4, none⟩ = some (.bool a) ∧ w.cell? ⟨p, 5, none⟩ = some (.int .i64 h) ∧
    w.cell? ⟨p, 6, none⟩ = some (.map (some lb)) ∧ w.cell? ⟨p, 7, none⟩ = some (.map (some fb)) ∧ (∀ o, w.frozen? ⟨p, o, none⟩ = false) := by
  refine ⟨?_, ?_, ?_, ?_, ?_, ?_, ?_, ?_, fun o => ?_⟩ <;> simp [World.cell?, World.frozen?, hb, dC]
theorem set_cell {w : World} {p : Nat} {C : Array Value} {t : TypeId} {f : Nat × Nat} (h : w.heap[p]? = some (.cells C t f)) (o : Nat) (v : Value) : (w.setCell ⟨p, o, none⟩ v).heap[p]? = some (.cells (C.setIfInBounds o v) t f) := by
  simp [World.setCell, Array.getElem?_modify, h]
theorem one_setCell (w : World) (p o : Nat) (v : Value) : One p w (w.setCell ⟨p, o, none⟩ v) := ⟨rfl, rfl, rfl, rfl, by simp [World.setCell], fun k hk => Below.heap_setCell _ _ _ _ hk⟩
theorem One.trans {p : Nat} {a b c : World} (h : One p a b) (k : One p b c) : One p a c := ⟨k.os.trans h.os, k.tape.trans h.tape, k.output.trans h.output, k.drawn.trans h.drawn, k.size.trans h.size, fun i hi => (k.block i hi).trans (h.block i hi)⟩

set_option maxHeartbeats 1000000 in
theorem Dead_any (N : Nat) (p : Nat) (d : DS) (fp : List Nat) (w : World) (h : DiskAt N w p d fp) :
    Calls Tryz.prog 34 #[.pointer (some ⟨p, 0, none⟩)] w fun x w' => x = .returned (.bool d.dead) ∧ w' = w := by
  obtain ⟨sh, h1, _⟩ := h
  obtain ⟨c0, c1, c2, c3, c4, c5, c6, c7, hz⟩ := disk_cells h1
  clear h1
  go_enter Tryz.func34, Tryz.ntmps34
  go_wp2
  go_ret
  exact ⟨rfl, rfl⟩
set_option maxHeartbeats 1000000 in
theorem Steps_any (N : Nat) (p : Nat) (d : DS) (fp : List Nat) (w : World) (h : DiskAt N w p d fp) :
    Calls Tryz.prog 35 #[.pointer (some ⟨p, 0, none⟩)] w fun x w' => x = .returned (.int .i64 d.steps) ∧ w' = w := by
  obtain ⟨sh, h1, _⟩ := h
  obtain ⟨c0, c1, c2, c3, c4, c5, c6, c7, hz⟩ := disk_cells h1
  clear h1
  go_enter Tryz.func35, Tryz.ntmps35
  go_wp2
  go_ret
  exact ⟨rfl, rfl⟩
set_option maxHeartbeats 1000000 in
theorem Room_any (N : Nat) (p : Nat) (d : DS) (fp : List Nat) (w : World) (h : DiskAt N w p d fp) :
    Calls Tryz.prog 51 #[.pointer (some ⟨p, 0, none⟩)] w fun x w' => x = .returned (.int .i64 (d.room - d.secs.length)) ∧ ∃ n, w' = w.drewN n := by
  obtain ⟨sh, h1, _, _, _, _, k1, k2, _, _, _, k3, _⟩ := h
  obtain ⟨c0, c1, c2, c3, c4, c5, c6, c7, hz⟩ := disk_cells h1
  clear h1
  generalize d.room = r at *
  have k4 : (0 : Int) ≤ (d.secs.length : Int) := by omega
  generalize (d.secs.length : Int) = t at *
  go_enter Tryz.func51, Tryz.ntmps51
  go_wp2
  go_quiet (fail)
  go_wp2
  go_ret
  exact ⟨rfl, _, rfl⟩
theorem DiskAt.cells {N : Nat} {w : World} {p : Nat} {d : DS} {fp : List Nat} (h : DiskAt N w p d fp) : ∃ lb fb, w.heap[p]? = some (dC d.room (d.secs.length : Int) d.steps d.dead d.armed d.ahead lb fb) := by
  obtain ⟨sh, hb, _⟩ := h; exact ⟨_, _, hb⟩
theorem DiskAt.bounds {N : Nat} {w : World} {p : Nat} {d : DS} {fp : List Nat} (h : DiskAt N w p d fp) : 0 ≤ d.room ∧ d.room ≤ 9223372036854775807 ∧ 0 ≤ d.steps ∧ d.steps ≤ N ∧ d.secs.length ≤ N ∧ (d.secs.length : Int) ≤ d.room ∧ (∀ s ∈ d.secs, s.fresh.length ≤ N) ∧
    -9223372036854775808 ≤ d.ahead ∧ d.ahead ≤ 9223372036854775807 ∧ (d.armed = true → 0 ≤ d.ahead) := by
  obtain ⟨sh, _, _, _, _, _, r⟩ := h; exact r
/-- The disk's own cells have changed, and nothing else of it. -/
theorem DiskAt.turn {N M : Nat} {w w' : World} {p : Nat} {d d' : DS} {fp : List Nat} {lb fb : Nat} (h : DiskAt N w p d fp) (hb : w.heap[p]? = some (dC d.room (d.secs.length : Int) d.steps d.dead d.armed d.ahead lb fb)) (ho : One p w w')
    (hb' : w'.heap[p]? = some (dC d'.room (d'.secs.length : Int) d'.steps d'.dead d'.armed d'.ahead lb fb)) (hs : d'.secs = d.secs) (hr : d'.room = d.room) (hN : N ≤ M) (h0 : 0 ≤ d'.steps) (h1 : d'.steps ≤ M) (h2 : -9223372036854775808 ≤ d'.ahead) (h3 : d'.ahead ≤ 9223372036854775807) (h4 : d'.armed = true → 0 ≤ d'.ahead) : DiskAt M w' p d' fp := by
  obtain ⟨sh, k1, k2, k3, rfl, k5, k6, k7, k8, k9, k10, k11, k12, k13⟩ := h
  rw [k1] at hb
  simp only [dC, Option.some.injEq, Obj.cells.injEq, Array.mk.injEq, List.cons.injEq, Value.map.injEq, and_true, true_and] at hb
  obtain ⟨rfl, rfl⟩ := hb
  have hn := List.nodup_cons.1 k5
  exact ⟨sh, hb', k2.same fun b hb => ho.block b fun e => hn.1 (e ▸ hb), hs ▸ k3, rfl, k5, hr ▸ k6, hr ▸ k7, h0, h1, by rw [hs]; omega, by rw [hs, hr]; exact k11, by rw [hs]; exact fun s hs => Nat.le_trans (k12 s hs) hN, h2, h3, h4⟩
set_option maxHeartbeats 1000000 in
theorem Arm_any (N : Nat) (p : Nat) (d : DS) (fp : List Nat) (at_ : Int) (w : World) (h : DiskAt N w p d fp) (h1 : -9223372036854775808 ≤ at_) (h2 : at_ ≤ 9223372036854775807) :
    Calls Tryz.prog 32 #[.pointer (some ⟨p, 0, none⟩), .int .i64 at_] w fun x w' => x = .returned (.tuple #[]) ∧ DiskAt N w' p (if d.dead then d else { d with armed := decide (0 ≤ at_), ahead := at_ }) fp ∧ Only fp w w' := by
  have HD : Hid (DiskAt N w p d fp) := h
  obtain ⟨lb, fb, hb⟩ := h.cells
  obtain ⟨c0, c1, c2, c3, c4, c5, c6, c7, hz⟩ := disk_cells hb
  have HB : Hid (w.heap[p]? = some (dC d.room (d.secs.length : Int) d.steps d.dead d.armed d.ahead lb fb)) := hb
  clear hb h
  cases hd : d.dead with
  | true =>
    rw [hd] at c3
    go_enter Tryz.func32, Tryz.ntmps32
    go_wp2
    (try simp only [Exit.inBlock, Exit.then]); refine bodyPost_ret (results_none rfl _ _ _) rfl ?_
    exact ⟨rfl, by simpa using HD.out, Only.refl _ _⟩
  | false =>
    rw [hd] at c3
    have HX : Hid (d.dead = false) := hd
    clear hd
    go_enter Tryz.func32, Tryz.ntmps32
    go_wp2
    go_end0
    have ho : One p w ((w.setCell ⟨p, 4, none⟩ (.bool (decide (0 ≤ at_)))).setCell ⟨p, 5, none⟩ (.int .i64 at_)) := (one_setCell _ _ _ _).trans (one_setCell _ _ _ _)
    obtain ⟨k1, k2, k3, k4, k5, k6, k7, k8, k9, k10⟩ := HD.out.bounds
    refine ⟨rfl, ?_, Only.of_one ho HD.out.mem⟩
    refine HD.out.turn HB.out ho ?_ rfl rfl (Nat.le_refl _) k3 k4 h1 h2 (fun h => by simpa using h)
    rw [set_cell (set_cell HB.out 4 _) 5 _, HX.out]
    rfl
/-- What a step answers, and the disk behind it. -/
def stepE (d : DS) : Int := if d.dead then 30 else if d.armed && d.ahead == 0 then 30 else 0
def stepD (d : DS) : DS := if d.dead then d else if !d.armed then { d with steps := d.steps + 1 } else if d.ahead = 0 then { d with steps := d.steps + 1, dead := true } else { d with steps := d.steps + 1, ahead := d.ahead - 1 }
theorem stepD_secs (d : DS) : (stepD d).secs = d.secs ∧ (stepD d).room = d.room := by unfold stepD; split <;> (try split) <;> (try split) <;> exact ⟨rfl, rfl⟩
set_option maxHeartbeats 1000000 in
theorem step_any (N : Nat) (p : Nat) (d : DS) (fp : List Nat) (w : World) (h : DiskAt N w p d fp) (hN : N < 1152921504606846976) :
    Calls Tryz.prog 52 #[.pointer (some ⟨p, 0, none⟩)] w fun x w' => x = .returned (.int .i64 (stepE d)) ∧ DiskAt (N + 1) w' p (stepD d) fp ∧ One p w w' := by
  have HD : Hid (DiskAt N w p d fp) := h
  obtain ⟨k1, k2, k3, k4, k5, k6, k7, k8, k9, k10⟩ := h.bounds
  obtain ⟨lb, fb, hb⟩ := h.cells
  obtain ⟨c0, c1, c2, c3, c4, c5, c6, c7, hz⟩ := disk_cells hb
  have HB : Hid (w.heap[p]? = some (dC d.room (d.secs.length : Int) d.steps d.dead d.armed d.ahead lb fb)) := hb
  have HK : Hid (d.armed = true → 0 ≤ d.ahead) := k10
  clear hb h k7 k10
  cases hd : d.dead with
  | true =>
    rw [hd] at c3
    have HX : Hid (d.dead = true) := hd
    clear hd
    go_enter Tryz.func52, Tryz.ntmps52
    go_wp2
    go_ret
    exact ⟨by rw [stepE, if_pos HX.out]; rfl, by rw [stepD, if_pos HX.out]; exact HD.out.mono (by omega), ⟨rfl, rfl, rfl, rfl, rfl, fun _ _ => rfl⟩⟩
  | false =>
    rw [hd] at c3
    have HX : Hid (d.dead = false) := hd
    clear hd
    cases ha : d.armed with
    | false =>
      rw [ha] at c4
      have HA : Hid (d.armed = false) := ha
      clear ha
      go_enter Tryz.func52, Tryz.ntmps52
      go_wp2
      go_ret
      have e : stepD d = { d with steps := d.steps + 1 } := by rw [stepD, if_neg (by rw [HX.out]; simp), if_pos (by rw [HA.out]; rfl)]
      refine ⟨by rw [stepE, if_neg (by rw [HX.out]; simp), HA.out]; rfl, ?_, one_setCell _ _ _ _⟩
      rw [e]
      refine HD.out.turn HB.out (one_setCell _ _ _ _) ?_ rfl rfl (by omega) (show 0 ≤ d.steps + 1 by omega) (show d.steps + 1 ≤ _ by omega) k8 k9 HK.out
      rw [set_cell HB.out 2 _]
      rfl
    | true =>
      rw [ha] at c4
      have HA : Hid (d.armed = true) := ha
      have ka := HK.out ha
      clear ha
      by_cases hah : d.ahead = 0
      · rw [hah] at c5
        have HH : Hid (d.ahead = 0) := hah
        clear hah
        go_enter Tryz.func52, Tryz.ntmps52
        go_wp2
        go_ret
        have e : stepD d = { d with steps := d.steps + 1, dead := true } := by rw [stepD, if_neg (by rw [HX.out]; simp), if_neg (by rw [HA.out]; simp), if_pos HH.out]
        have ho : One p w ((w.setCell ⟨p, 2, none⟩ (.int .i64 (d.steps + 1))).setCell ⟨p, 3, none⟩ (.bool true)) := (one_setCell _ _ _ _).trans (one_setCell _ _ _ _)
        refine ⟨by rw [stepE, if_neg (by rw [HX.out]; simp), HA.out, HH.out]; rfl, ?_, ho⟩
        rw [e]
        refine HD.out.turn HB.out ho ?_ rfl rfl (by omega) (show 0 ≤ d.steps + 1 by omega) (show d.steps + 1 ≤ _ by omega) k8 k9 HK.out
        rw [set_cell (set_cell HB.out 2 _) 3 _]
        rfl
      · have hb : (d.ahead == 0) = false := by simpa using hah
        have HH : Hid (d.ahead ≠ 0) := hah
        clear hah
        go_enter Tryz.func52, Tryz.ntmps52
        go_wp2
        go_ret
        have hne := HH.out
        have e : stepD d = { d with steps := d.steps + 1, ahead := d.ahead - 1 } := by rw [stepD, if_neg (by rw [HX.out]; simp), if_neg (by rw [HA.out]; simp), if_neg HH.out]
        have ho : One p w ((w.setCell ⟨p, 2, none⟩ (.int .i64 (d.steps + 1))).setCell ⟨p, 5, none⟩ (.int .i64 (d.ahead - 1))) := (one_setCell _ _ _ _).trans (one_setCell _ _ _ _)
        refine ⟨by rw [stepE, if_neg (by rw [HX.out]; simp), HA.out, hb]; rfl, ?_, ho⟩
        rw [e]
        refine HD.out.turn HB.out ho ?_ rfl rfl (by omega) (show 0 ≤ d.steps + 1 by omega) (show d.steps + 1 ≤ _ by omega) (show _ ≤ d.ahead - 1 by omega) (show d.ahead - 1 ≤ _ by omega) (fun _ => show 0 ≤ d.ahead - 1 by omega)
        rw [set_cell (set_cell HB.out 2 _) 5 _]
        rfl
end Go.Proofs.YthecngkdmnadoaaGreat
