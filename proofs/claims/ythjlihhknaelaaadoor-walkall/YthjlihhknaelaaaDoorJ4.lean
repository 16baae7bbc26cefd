/- Texts that were written apart, joined. -/
import Derived.Test.YthjlihhknaelaaaDoorJ3
import Derived.Test.YthjlihhknaelaaaDoorJ2
import Derived.RangeFuncNested
import Derived.Test.YthjlihhknaelaaaDoorJ0
import Derived.Laws.BytesArg
/- Cut: what the seat's translation lacks is left out. -/
/- The builder in memory: its states, what its two maps know. -/
namespace Go.Proofs.YthjlihhknaelaaaDoor
open Go.RowKit Nums Fm
set_option maxRecDepth 100000

def cellsA (a : Arc) : List Value := [.int .i32 a.label, .int .i64 a.out, .int .i64 a.to]
theorem cellsA_ok (a : Arc) : Cells 3 (cellsA a) := ⟨rfl, by simp [cellsA, Value.oneCell']⟩
def OkArc (a : Arc) : Prop := Fits32 a.label ∧ Fits64 a.out ∧ Fits64 a.to
/-- A row of arcs. -/
def AOwn (B : Nat) (w : World) (v : Value) (l : List Arc) : Prop := GOwn 58 3 B w v (l.map cellsA)
/-- What is known of lists of arcs: number n is the list D[n]. -/
structure LInv (m : List (LK × Nat)) (D : List (List Arc)) : Prop where
  zero : D[0]? = some []
  len : D.length = m.length + 1
  row : ∀ (i : Nat) (x : LK) (n : Nat), m[i]? = some (x, n) → n = i + 1 ∧ ∃ p, D[x.1]? = some p ∧ D[n]? = some (p ++ [x.2])
  nd : D.Nodup
theorem nodup_at {α : Type} {l : List α} (h : l.Nodup) {i j : Nat} {x : α} (hi : l[i]? = some x) (hj : l[j]? = some x) : i = j := by
  obtain ⟨h1, e1⟩ := List.getElem?_eq_some_iff.1 hi
  obtain ⟨h2, e2⟩ := List.getElem?_eq_some_iff.1 hj
  have hp := List.pairwise_iff_getElem.1 h
  rcases Nat.lt_trichotomy i j with h3 | h3 | h3
  · exact absurd (e1.trans e2.symm) (hp i j h1 h2 h3)
  · exact h3
  · exact absurd (e2.trans e1.symm) (hp j i h2 h1 h3)
theorem nodup_snoc {α : Type} {l : List α} {x : α} (h : l.Nodup) (hx : x ∉ l) : (l ++ [x]).Nodup := by
  rw [List.nodup_append]
  exact ⟨h, by simp, fun a ha b hb => by rw [List.mem_singleton.1 hb]; exact fun e => hx (e ▸ ha)⟩
theorem LInv.found {m : List (LK × Nat)} {D : List (List Arc)} (h : LInv m D) {n k : Nat} {a : Arc} {p : List Arc} (hm : ((n, a), k) ∈ m) (hn : D[n]? = some p) : D[k]? = some (p ++ [a]) := by
  obtain ⟨i, hi⟩ := List.mem_iff_getElem?.1 hm
  obtain ⟨_, p', h1, h2⟩ := h.row i _ _ hi
  rw [hn] at h1
  cases h1
  exact h2
theorem LInv.add {m : List (LK × Nat)} {D : List (List Arc)} (h : LInv m D) {n : Nat} {a : Arc} {p : List Arc} (hnew : ∀ k, ((n, a), k) ∉ m) (hn : D[n]? = some p) : LInv (m ++ [((n, a), m.length + 1)]) (D ++ [p ++ [a]]) ∧ (D ++ [p ++ [a]])[m.length + 1]? = some (p ++ [a]) := by
  have hlen := h.len
  have hlast : (D ++ [p ++ [a]])[m.length + 1]? = some (p ++ [a]) := by rw [List.getElem?_append_right (by omega), hlen]; simp
  have hpre : ∀ {i : Nat} {q : List Arc}, D[i]? = some q → (D ++ [p ++ [a]])[i]? = some q := fun {i q} hi => by
    rw [List.getElem?_append_left (List.getElem?_eq_some_iff.1 hi).1]; exact hi
  refine ⟨⟨hpre h.zero, by simp [hlen], fun i x k hi => ?_, nodup_snoc h.nd fun hmem => ?_⟩, hlast⟩
  · by_cases hil : i < m.length
    · rw [List.getElem?_append_left hil] at hi
      obtain ⟨h1, q, h2, h3⟩ := h.row i x k hi
      exact ⟨h1, q, hpre h2, hpre h3⟩
    · rw [List.getElem?_append_right (by omega)] at hi
      cases hi0 : i - m.length with
      | zero =>
        rw [hi0] at hi
        simp only [List.getElem?_cons_zero, Option.some.injEq, Prod.mk.injEq] at hi
        obtain ⟨rfl, rfl⟩ := hi
        exact ⟨by omega, p, hpre hn, hlast⟩
      | succ j => rw [hi0] at hi; simp at hi
  · obtain ⟨i, hi⟩ := List.mem_iff_getElem?.1 hmem
    have hil := (List.getElem?_eq_some_iff.1 hi).1
    cases i with
    | zero =>
      rw [h.zero] at hi
      simp at hi
    | succ j =>
      obtain ⟨⟨x, k⟩, hx⟩ : ∃ xk, m[j]? = some xk := ⟨m[j]'(by omega), List.getElem?_eq_getElem _⟩
      obtain ⟨rfl, q, h2, h3⟩ := h.row j x k hx
      rw [hi] at h3
      simp only [Option.some.injEq] at h3
      have h4 := List.append_inj' h3 rfl
      have e1 : x.2 = a := by have := h4.2; simp at this; exact this.symm
      rw [← h4.1] at h2
      have e2 : x.1 = n := nodup_at h.nd h2 hn
      have ex : x = (n, a) := Prod.ext e2 e1
      exact hnew (j + 1) (ex ▸ List.mem_of_getElem? hx)
/-- What is known of states. -/
structure NInv (m : List (SK × Nat)) (D : List (List Arc)) (b : List St) : Prop where
  len : m.length = b.length
  row : ∀ (i : Nat) (x : SK) (n : Nat), m[i]? = some (x, n) → n = i ∧ ∃ s, b[i]? = some s ∧ s.final = x.1 ∧ s.out = x.2.1 ∧ D[x.2.2]? = some s.arcs
  nd : b.Nodup
theorem NInv.more {m : List (SK × Nat)} {D D' : List (List Arc)} {b : List St} (h : NInv m D b) (hp : D <+: D') : NInv m D' b := by
  obtain ⟨t, rfl⟩ := hp
  refine ⟨h.len, fun i x n hi => ?_, h.nd⟩
  obtain ⟨h1, s, h2, h3, h4, h5⟩ := h.row i x n hi
  exact ⟨h1, s, h2, h3, h4, by rw [List.getElem?_append_left (List.getElem?_eq_some_iff.1 h5).1]; exact h5⟩
theorem NInv.found {m : List (SK × Nat)} {D : List (List Arc)} {b : List St} (h : NInv m D b) {s : St} {ln k : Nat} (hm : ((s.final, s.out, ln), k) ∈ m) (hl : D[ln]? = some s.arcs) : numSt b s = (b, k) ∧ k < b.length := by
  obtain ⟨i, hi⟩ := List.mem_iff_getElem?.1 hm
  obtain ⟨rfl, s', h2, h3, h4, h5⟩ := h.row i _ _ hi
  rw [hl] at h5
  have e : s' = s := by
    cases s; cases s'
    simp only [Option.some.injEq] at h3 h4 h5
    simp only [St.mk.injEq]
    exact ⟨h3, h4, h5.symm⟩
  subst e
  have hmem : s' ∈ b := List.mem_of_getElem? h2
  have hidx := List.idxOf_lt_length_of_mem hmem
  have : b.idxOf s' = k := nodup_at h.nd (by rw [List.getElem?_eq_getElem hidx, List.getElem_idxOf]) h2
  rw [numSt, if_pos hmem, this]
  exact ⟨rfl, (List.getElem?_eq_some_iff.1 h2).1⟩
theorem NInv.add {m : List (SK × Nat)} {D : List (List Arc)} {b : List St} (h : NInv m D b) (hD : D.Nodup) {s : St} {ln : Nat} (hnew : ∀ k, ((s.final, s.out, ln), k) ∉ m) (hl : D[ln]? = some s.arcs) : numSt b s = (b ++ [s], b.length) ∧ NInv (m ++ [((s.final, s.out, ln), b.length)]) D (b ++ [s]) := by
  have hmem : s ∉ b := fun hmem => by
    obtain ⟨i, hi⟩ := List.mem_iff_getElem?.1 hmem
    have hil := (List.getElem?_eq_some_iff.1 hi).1
    have hlen := h.len
    obtain ⟨⟨x, k⟩, hx⟩ : ∃ xk, m[i]? = some xk := ⟨m[i]'(by omega), List.getElem?_eq_getElem _⟩
    obtain ⟨_, s', h2, h3, h4, h5⟩ := h.row i x k hx
    rw [hi] at h2
    cases h2
    have e := nodup_at hD h5 hl
    have ex : x = (s.final, s.out, ln) := by rw [h3, h4, ← e]
    exact hnew k (ex ▸ List.mem_of_getElem? hx)
  refine ⟨by rw [numSt, if_neg hmem], by simp [h.len], fun i x n hi => ?_, nodup_snoc h.nd hmem⟩
  by_cases hil : i < m.length
  · rw [List.getElem?_append_left hil] at hi
    obtain ⟨h1, s', h2, h3⟩ := h.row i x n hi
    exact ⟨h1, s', by rw [List.getElem?_append_left (List.getElem?_eq_some_iff.1 h2).1]; exact h2, h3⟩
  · rw [List.getElem?_append_right (by omega)] at hi
    have hlen := h.len
    cases hi0 : i - m.length with
    | zero =>
      rw [hi0] at hi
      simp only [List.getElem?_cons_zero, Option.some.injEq, Prod.mk.injEq] at hi
      obtain ⟨rfl, rfl⟩ := hi
      refine ⟨by omega, s, ?_, rfl, rfl, hl⟩
      rw [List.getElem?_append_right (by omega), show i - b.length = 0 by omega]
      rfl
    | succ j => rw [hi0] at hi; simp at hi

/-- Only blocks of F have changed, of those that were there. -/
structure Upd (F : Nat → Prop) (w w' : World) : Prop where
  os : w'.os = w.os
  tape : w'.tape = w.tape
  output : w'.output = w.output
  size : w.heap.size ≤ w'.heap.size
  block : ∀ k, k < w.heap.size → ¬ F k → w'.heap[k]? = w.heap[k]?
theorem Upd.refl (F : Nat → Prop) (w : World) : Upd F w w := ⟨rfl, rfl, rfl, Nat.le_refl _, fun _ _ _ => rfl⟩
theorem Upd.trans {F G : Nat → Prop} {a b c : World} (h1 : Upd F a b) (h2 : Upd G b c) (hG : ∀ k, k < a.heap.size → G k → F k) : Upd F a c :=
  ⟨h2.os.trans h1.os, h2.tape.trans h1.tape, h2.output.trans h1.output, Nat.le_trans h1.size h2.size, fun k hk hF => (h2.block k (Nat.lt_of_lt_of_le hk h1.size) (fun g => hF (hG k hk g))).trans (h1.block k hk hF)⟩
theorem Upd.of_below {F : Nat → Prop} {w w' : World} (h : Below w.heap.size w w') : Upd F w w' := ⟨h.os, h.tape, h.output, h.size, fun k hk _ => h.block k hk⟩
theorem Upd.mono {F G : Nat → Prop} {w w' : World} (h : Upd F w w') (hG : ∀ k, F k → G k) : Upd G w w' := ⟨h.os, h.tape, h.output, h.size, fun k hk hF => h.block k hk (fun f => hF (hG k f))⟩
theorem Upd.below {F : Nat → Prop} {w w' : World} (h : Upd F w w') {E : Nat} (hE : E ≤ w.heap.size) (hF : ∀ k, F k → E ≤ k) : Below E w w' :=
  ⟨h.os, h.tape, h.output, h.size, fun k hk => h.block k (Nat.lt_of_lt_of_le hk hE) (fun f => by have := hF k f; omega)⟩
theorem Upd.alloc {F : Nat → Prop} {w w' : World} (h : Upd F w w') (o : Obj) : Upd F w (w'.alloc o) :=
  h.trans (G := F) (Upd.of_below ((Below.refl _ w').alloc (Nat.le_refl _) o)) (fun _ _ g => g)

/-- The builder's own blocks. -/
def fpB (g g1 g2 : Nat) (vs : Value) (k : Nat) : Prop := k = g ∨ k = g1 ∨ k = g2 ∨ vs.ownBlock = some k
section
variable {A : Nat → Prop} {E g g1 g2 : Nat} {w w' : World} {vs : Value} {b : List St} {m1 : List (SK × Nat)} {m2 : List (LK × Nat)} {D : List (List Arc)}
theorem AOwn.typed {B : Nat} {v : Value} {l : List Arc} (h : AOwn B w v l) (hs : ∀ (k : Nat) (cur : Array Value), w.heap[k]? = some (Obj.cells cur 58 (0, 0)) → w'.heap[k]? = w.heap[k]?) : AOwn B w' v l :=
  GOwn.same h fun g hg => by obtain ⟨_, cur, h1⟩ := GOwn.block h hg; exact hs g cur h1
end
theorem exec_upd {P : Program} (ρ : Operand → Value) (x y z : Operand) (t : TypeId) (dst : Option Tmp) (ty : TypeId) (pos : String) (af : Array Edge) (g : Option (Nat × Bool)) (w : World) :
    (execOp ρ ⟨dst, .mapUpdate t x y z, ty, pos, af, g⟩).run P w = ((Instr.mapUpdate t (ρ x) (ρ y) (ρ z)).run P w).andThen (fun _ w' => .ok .skip w') := by
  simp only [execOp, Sem.run_bind, Sem.run_pure]
end Go.Proofs.YthjlihhknaelaaaDoor

/- An iterator and its consumer: which blocks are whose; ranges over an iterator that writes cells of its own. -/
namespace Go.Proofs.YthjlihhknaelaaaDoor
open Go.RowKit Nums Fm
set_option maxRecDepth 100000

def pairV (x : Pr) : Value := .agg #[.string x.1, .int .i64 x.2]
/-- The consumer's blocks may grow by new ones. -/
def Ext (A A' : Nat → Prop) (w : World) : Prop := (∀ k, A k → A' k) ∧ ∀ k, A' k → A k ∨ w.heap.size ≤ k
theorem Ext.refl (A : Nat → Prop) (w : World) : Ext A A w := ⟨fun _ h => h, fun _ h => .inl h⟩
theorem Ext.trans {A A' A'' : Nat → Prop} {w w' : World} (h : Ext A A' w) (h' : Ext A' A'' w') (hs : w.heap.size ≤ w'.heap.size) : Ext A A'' w :=
  ⟨fun k hk => h'.1 k (h.1 k hk), fun k hk => (h'.2 k hk).elim (h.2 k) (fun g => .inr (Nat.le_trans hs g))⟩
abbrev CI := (Nat → Prop) → List Pr → World → Prop
/-- The consumer's word minds its own blocks alone, and those below B. -/
def Minds (B : Nat) (I : CI) : Prop := ∀ A pre W W', I A pre W → Upd (fun k => ¬ A k ∧ B ≤ k) W W' → I A pre W'
def MindsX (X : List Pr → World → Prop) : Prop := ∀ pre W W', X pre W → Below W.heap.size W W' → X pre W'
/-- The blocks lie. -/
def Lies (A : Nat → Prop) (W : World) : Prop := ∀ k, A k → k < W.heap.size
/-- The consumer is called. -/
def YC (yv : Value) (x : Pr) (W : World) (R : Ending → World → Prop) : Prop :=
  (∃ c0 c1, yv = .func (.func 29) #[] #[c0, c1] ∧ Calls Tryd.prog 29 #[pairV x, c0, c1] W R) ∨
  (∃ l, yv = .func (.yield l) #[] #[] ∧ ∀ m, YieldAt Fence.wide m Tryd.prog l #[pairV x] W R)
theorem YC.mono {yv : Value} {x : Pr} {W : World} {R R' : Ending → World → Prop} (h : YC yv x W R) (hr : ∀ e w, R e w → R' e w) : YC yv x W R' := by
  rcases h with ⟨c0, c1, h1, h3⟩ | ⟨l, h1, h2⟩
  · exact .inl ⟨c0, c1, h1, h3.mono hr⟩
  · refine .inr ⟨l, h1, fun m => ?_⟩
    obtain ⟨fn, tmps, asg, bd, hy, hR⟩ := h2 m
    exact ⟨fn, tmps, asg, bd, hy, hR.mono hr⟩
def YPost (I : CI) (X : List Pr → World → Prop) (A : Nat → Prop) (pre : List Pr) (x : Pr) (W : World) (e : Ending) (W' : World) : Prop :=
  (e = .returned (.bool true) ∧ ∃ A', Ext A A' W ∧ Lies A' W' ∧ Upd A W W' ∧ I A' (pre ++ [x]) W') ∨ (e = .returned (.bool false) ∧ X (pre ++ [x]) W')
def Yields (yv : Value) (I : CI) (X : List Pr → World → Prop) : Prop := ∀ A pre x W, I A pre W → Lies A W → YC yv x W (YPost I X A pre x W)
/-- What an iterator says: L, one by one, or a part of it; Sx: what it looks at when it was stopped. -/
def SeqIs (S : (Nat → Prop) → World → Prop) (Sx : World → Prop) (gf : Nat) (lb : Array Value) (L : List Pr) : Prop :=
  ∀ yv I X A W, (∃ fn cb, yv = .func fn #[] cb) → S A W → Minds W.heap.size I → MindsX X → (∀ pre W, X pre W → Sx W) → Yields yv I X → I A [] W → Lies A W → Calls Tryd.prog gf (#[yv] ++ lb) W fun e W' => (∃ v, e = .returned v) ∧
    ((∃ A', Ext A A' W ∧ Lies A' W' ∧ Upd A W W' ∧ I A' L W') ∨ ∃ q, q <+: L ∧ X q W')
theorem Upd.put {W : World} (l : Nat) (o : Obj) : Upd (fun k => k = l) W (W.putObj l o) :=
  ⟨rfl, rfl, rfl, by simp, fun k _ hk => World.putObj_heap_other hk⟩
/-- What the body of a round must come to. -/
def roundQ (I : CI) (X : Code → List Pr → World → Prop) (A : Nat → Prop) (pre : List Pr) (x : Pr) (W : World) : Exit → Act → World → Prop
  | .normal, _, W' => ∃ A', Ext A A' W ∧ Lies A' W' ∧ Upd A W W' ∧ I A' (pre ++ [x]) W'
  | .ret, _, W' => Upd A W W' ∧ X .ret (pre ++ [x]) W'
  | .exit i, _, W' => Upd A W W' ∧ X (.exit i) (pre ++ [x]) W'
  | .goto t, _, W' => Upd A W W' ∧ X (.goto t) (pre ++ [x]) W'
  | _, _, _ => False
set_option maxHeartbeats 1000000 in
theorem wp_rangeC {g : Operand} {ps : Array Tmp} {assign body : Code} {Q : Exit → Act → World → Prop} {a : Act} {w : World} {gf : Nat} {lb : Array Value} {S : (Nat → Prop) → World → Prop} {Sx : World → Prop} {L : List Pr}
    (hg : a.eval g = .func (.func gf) #[] lb) (eg : ∀ args w, (callFunc gf args).run Tryd.prog w = .ok (.enter gf args) w) (hseq : SeqIs S Sx gf lb L) (hps : ps.size = 1)
    (I : CI) (X : Code → List Pr → World → Prop) (A : Nat → Prop) (hA : Lies A w) (hS : ∀ W, Below w.heap.size w W → S (fun k => A k ∨ k = w.heap.size + 1 ∨ k = w.heap.size) W) (hI : Minds w.heap.size I)
    (hX : ∀ c pre W W', X c pre W → Upd (fun k => k = w.heap.size + 1 ∨ k = w.heap.size) W W' → X c pre W') (hXS : ∀ c pre W, X c pre W → Sx W) (h0 : I A [] w)
    (hround : ∀ n l A pre x W, I A pre W → Lies A W → ¬ A (w.heap.size + 1) → w.heap.size + 1 < W.heap.size → assign.wpIn (Fence.wide.inRound l) n Tryd.prog (Exit.then (fun a1 W1 => Upd (fun _ => False) W W1 ∧ ∀ W2, Upd (fun k => k = w.heap.size + 1) W1 W2 → body.wpIn (Fence.wide.inRound l) n Tryd.prog (roundQ I X A pre x W2) a1 W2) (fun _ _ _ => False)) { tmps := (ps.zip #[pairV x]).foldl (fun t (p, v) => t.setIfInBounds p v) a.tmps, defers := [] } W)
    (hdone : ∀ A' W, Lies A' W → I A' L W → W.heap[w.heap.size]? = some (.deferred (some [])) → Q .normal { a with defers := { target := .collected w.heap.size, args := #[] } :: a.defers } W)
    (hstop : ∀ c q W, q <+: L → X c q W → W.heap[w.heap.size]? = some (.deferred (some [])) → c.wp Tryd.prog Q { a with defers := { target := .collected w.heap.size, args := #[] } :: a.defers } W) :
    (Code.rangeFunc g ps assign body).wp Tryd.prog Q a w := by
  refine (wpIn_wide (n := 0)).1 (wpIn_rangeFunc ?_)
  intro fn hfn
  rw [Fence.wide_round]
  obtain ⟨rec, hrec⟩ : ∃ rec : LoopState → Option Code → Loop, rec = fun st pe => { state := st, pending := pe, fn, tmps := a.tmps, params := ps, assign, body, defers := w.heap.size } := ⟨_, rfl⟩
  obtain ⟨W1, hW1⟩ : ∃ W1, (w.alloc (.deferred (some []))).alloc (.loop (rec .ready none)) = W1 := ⟨_, rfl⟩
  have hL1 : W1.heap[w.heap.size + 1]? = some (.loop (rec .ready none)) := by
    rw [← hW1]; have := World.alloc_heap_new (w.alloc (.deferred (some []))) (.loop (rec .ready none)); rwa [World.size_alloc] at this
  have hK1 : W1.heap[w.heap.size]? = some (.deferred (some [])) := by
    rw [← hW1]; exact (Below.heap_alloc _ _ _ (by simp)).trans (World.alloc_heap_new w _)
  have hb1 : Below w.heap.size w W1 := by rw [← hW1]; exact ((Below.refl _ w).alloc (Nat.le_refl _) _).alloc (by simp) _
  have hs1 : w.heap.size + 1 < W1.heap.size := (Array.getElem?_eq_some_iff.1 hL1).1
  let IA : CI := fun A2 pre W => ∃ A, (∀ k, A2 k ↔ A k ∨ k = w.heap.size + 1 ∨ k = w.heap.size) ∧ ¬ A (w.heap.size + 1) ∧ ¬ A w.heap.size ∧ Lies A W ∧ W.heap[w.heap.size + 1]? = some (.loop (rec .ready none)) ∧ W.heap[w.heap.size]? = some (.deferred (some [])) ∧ I A pre W
  let IX : List Pr → World → Prop := fun pre W => ∃ c, X c pre W ∧ W.heap[w.heap.size + 1]? = some (.loop (rec .done (some c))) ∧ W.heap[w.heap.size]? = some (.deferred (some []))
  refine ⟨w.heap.size + 1, [{ target := .collected w.heap.size, args := #[] }], W1, { target := .fn (.func gf) lb, args := #[.func (.yield (w.heap.size + 1)) #[] #[]] }, W1, gf,
    #[.func (.yield (w.heap.size + 1)) #[] #[]] ++ lb, W1, ?_, ?_, fun _ _ => trivial, ?_, fun h => by simp [Fence.wide] at h, ?_⟩
  · rw [← hW1, hrec]; exact run_enterLoop_outer _ _ _ _ _
  · simp only [resolve, hg]
    simp [go_sem]
  · simp [invoke, go_sem, eg]
  · refine callsIn_wide.2 ((hseq (.func (.yield (w.heap.size + 1)) #[] #[]) IA IX (fun k => A k ∨ k = w.heap.size + 1 ∨ k = w.heap.size) W1 ⟨_, _, rfl⟩ (hS W1 hb1) ?_ ?_ (fun pre W ⟨c, hx, _, _⟩ => hXS c pre W hx) ?_ ?_ ?_).mono ?_)
    · rintro A2 pre W W' ⟨B, hiff, n1, n2, hl, hr, hd, hi⟩ hu
      refine ⟨B, hiff, n1, n2, fun k hk => Nat.lt_of_lt_of_le (hl k hk) hu.size, ?_, ?_, hI _ _ _ _ hi (hu.mono fun k ⟨h1, h2⟩ => ⟨fun h => h1 ((hiff k).2 (.inl h)), by omega⟩)⟩
      · exact (hu.block _ (Array.getElem?_eq_some_iff.1 hr).1 (fun h => h.1 ((hiff _).2 (.inr (.inl rfl))))).trans hr
      · exact (hu.block _ (Array.getElem?_eq_some_iff.1 hd).1 (fun h => h.1 ((hiff _).2 (.inr (.inr rfl))))).trans hd
    · rintro pre W W' ⟨c, hx, hr, hd⟩ hb
      exact ⟨c, hX c pre W W' hx (Upd.of_below hb), (hb.block _ (Array.getElem?_eq_some_iff.1 hr).1).trans hr, (hb.block _ (Array.getElem?_eq_some_iff.1 hd).1).trans hd⟩
    · rintro A2 pre x W ⟨B, hiff, n1, n2, hl, hr, hd, hi⟩ hlies
      refine .inr ⟨w.heap.size + 1, rfl, fun m => ?_⟩
      have hlt : w.heap.size + 1 < W.heap.size := (Array.getElem?_eq_some_iff.1 hr).1
      have hy := run_yield (P := Tryd.prog) (args := #[pairV x]) hr (by rw [hrec]; exact hps.symm)
      rw [hrec] at hy
      refine ⟨fn, _, assign, body, hy, roundIn_of_wpIn hfn (wpIn_mono (hround m (w.heap.size + 1) B pre x W hi hl n1 hlt) ?_)⟩
      clear hy
      intro e0 a0 Wa hp0
      cases e0 with
      | exit _ => exact hp0.elim
      | goto _ => exact hp0.elim
      | ret => exact hp0.elim
      | panic _ => exact hp0.elim
      | outgrown => exact hp0.elim
      | normal =>
      obtain ⟨hu0, hbody⟩ := hp0
      have hra : Wa.heap[w.heap.size + 1]? = some (.loop (rec .ready none)) := (hu0.block _ hlt id).trans hr
      have hda : Wa.heap[w.heap.size]? = some (.deferred (some [])) := (hu0.block _ (by omega) id).trans hd
      have hlta : w.heap.size + 1 < Wa.heap.size := (Array.getElem?_eq_some_iff.1 hra).1
      refine ⟨_, run_beginRound hra (by rw [hrec]), ?_⟩
      have hu1' : Upd (fun k => k = w.heap.size + 1) Wa (Wa.putObj (w.heap.size + 1) (.loop { rec .ready none with state := .busy })) := Upd.put _ _
      have hl2 : (Wa.putObj (w.heap.size + 1) (.loop { rec .ready none with state := .busy })).heap[w.heap.size + 1]? = some (.loop { rec .ready none with state := .busy }) := World.putObj_heap_same hlta
      have hk2 : (Wa.putObj (w.heap.size + 1) (.loop { rec .ready none with state := .busy })).heap[w.heap.size]? = some (.deferred (some [])) := (World.putObj_heap_other (by omega)).trans hda
      have hbody2 := hbody _ hu1'
      clear hbody
      generalize (Wa.putObj (w.heap.size + 1) (.loop { rec .ready none with state := .busy })) = Wb at hu1' hl2 hk2 hbody2
      have hu1 : Upd (fun k => k = w.heap.size + 1) W Wb := (hu0.mono fun k h => h.elim).trans hu1' (fun _ _ h => h)
      have hszb : w.heap.size + 1 < Wb.heap.size := (Array.getElem?_eq_some_iff.1 hl2).1
      refine wpIn_mono hbody2 ?_
      have fin : ∀ (jump : Option Code) (W3 : World), Upd B Wb W3 →
          (Instr.endRound (w.heap.size + 1) jump).run Tryd.prog W3 = .ok (.bool jump.isNone) (W3.putObj (w.heap.size + 1) (.loop (rec (if jump.isNone then .ready else .done) jump))) ∧
          (W3.putObj (w.heap.size + 1) (.loop (rec (if jump.isNone then .ready else .done) jump))).heap[w.heap.size + 1]? = some (.loop (rec (if jump.isNone then .ready else .done) jump)) ∧
          (W3.putObj (w.heap.size + 1) (.loop (rec (if jump.isNone then .ready else .done) jump))).heap[w.heap.size]? = some (.deferred (some [])) := fun jump W3 hu3 => by
        have hl3 := (hu3.block _ hszb n1).trans hl2
        have hd3 := (hu3.block _ (by omega) n2).trans hk2
        have := run_endRound (P := Tryd.prog) jump hl3
        rw [hrec] at this ⊢
        exact ⟨this, World.putObj_heap_same (Array.getElem?_eq_some_iff.1 hl3).1, (World.putObj_heap_other (by omega)).trans hd3⟩
      rintro e a3 W3 hp
      cases e with
      | normal =>
        obtain ⟨B', he, hl3, hu3, hi3⟩ := hp
        obtain ⟨hr', f1, f2⟩ := fin none W3 hu3
        have m1 : ¬ B' (w.heap.size + 1) := fun h => (he.2 _ h).elim n1 (fun g => by omega)
        have m2 : ¬ B' w.heap.size := fun h => (he.2 _ h).elim n2 (fun g => by omega)
        have hu4 : Upd (fun k => k = w.heap.size + 1) W3 (W3.putObj (w.heap.size + 1) (.loop (rec (if (none : Option Code).isNone then .ready else .done) none))) := Upd.put _ _
        refine ⟨_, _, hr', .inl ⟨rfl, fun k => B' k ∨ k = w.heap.size + 1 ∨ k = w.heap.size, ⟨fun k hk => ?_, fun k hk => ?_⟩, fun k hk => ?_, ?_, B', fun k => Iff.rfl, m1, m2, ?_, f1, f2, ?_⟩⟩
        · rcases (hiff k).1 hk with h | h
          · exact .inl (he.1 k h)
          · exact .inr h
        · rcases hk with h | h
          · rcases he.2 k h with h | h
            · exact .inl ((hiff k).2 (.inl h))
            · exact .inr (Nat.le_trans hu1.size h)
          · exact .inl ((hiff k).2 (.inr h))
        · rw [World.putObj_size]
          have := hu3.size
          rcases hk with h | h | h
          · exact hl3 k h
          · omega
          · omega
        · refine (hu1.mono (G := A2) fun k e => (hiff k).2 (.inr (.inl e))).trans (hu3.mono (G := A2) fun k h => (hiff k).2 (.inl h)) (fun _ _ h => h) |>.trans (hu4.mono (G := A2) fun k e => (hiff k).2 (.inr (.inl e))) (fun _ _ h => h)
        · exact fun k hk => by rw [World.putObj_size]; exact hl3 k hk
        · exact hI _ _ _ _ hi3 (hu4.mono fun k e => by subst e; exact ⟨m1, by omega⟩)
      | ret =>
        obtain ⟨hu3, hx3⟩ := hp
        obtain ⟨hr', f1, f2⟩ := fin (some .ret) W3 hu3
        exact ⟨_, _, hr', .inr ⟨rfl, .ret, hX _ _ _ _ hx3 ((Upd.put _ _).mono fun k e => .inl e), f1, f2⟩⟩
      | exit id =>
        obtain ⟨hu3, hx3⟩ := hp
        obtain ⟨hr', f1, f2⟩ := fin (some (.exit id)) W3 hu3
        exact ⟨_, _, hr', .inr ⟨rfl, .exit id, hX _ _ _ _ hx3 ((Upd.put _ _).mono fun k e => .inl e), f1, f2⟩⟩
      | goto t =>
        obtain ⟨hu3, hx3⟩ := hp
        obtain ⟨hr', f1, f2⟩ := fin (some (.goto t)) W3 hu3
        exact ⟨_, _, hr', .inr ⟨rfl, .goto t, hX _ _ _ _ hx3 ((Upd.put _ _).mono fun k e => .inl e), f1, f2⟩⟩
      | panic ch => exact hp.elim
      | outgrown => exact hp.elim
    · refine ⟨A, fun k => Iff.rfl, fun h => ?_, fun h => ?_, fun k hk => Nat.lt_of_lt_of_le (hA k hk) hb1.size, hL1, hK1, hI _ _ _ _ h0 (Upd.of_below hb1)⟩
      · have := hA _ h; omega
      · have := hA _ h; omega
    · rintro k (h | h | h)
      · exact Nat.lt_of_lt_of_le (hA k h) hb1.size
      · omega
      · omega
    · rintro e W2 ⟨⟨v, rfl⟩, ⟨A', he, hl2, hu2, B, hiff, n1, n2, hl, hr, hd, hi⟩ | ⟨q, hq, c, hx, hr, hd⟩⟩
      · refine ⟨none, _, by have := run_endLoop (P := Tryd.prog) hr (by rw [hrec]; simp); rw [hrec] at this; exact this, ?_⟩
        exact hdone B _ (fun k hk => by rw [World.putObj_size]; exact hl k hk) (hI _ _ _ _ hi ((Upd.put _ _).mono fun k e => by subst e; exact ⟨n1, by omega⟩)) ((World.putObj_heap_other (by omega)).trans hd)
      · refine ⟨some c, _, by have := run_endLoop (P := Tryd.prog) hr (by rw [hrec]; simp); rw [hrec] at this; exact this, ?_⟩
        exact (wpIn_wide (n := 0)).2 (hstop c q _ hq (hX _ _ _ _ hx ((Upd.put _ _).mono fun k e => .inl e)) ((World.putObj_heap_other (by omega)).trans hd))
end Go.Proofs.YthjlihhknaelaaaDoor

/- How machines grow: what each step of the making asks and gives. No program is named here. -/
namespace Go.Proofs.YthjlihhknaelaaaDoor.Fm

/-- Rests of which a state can be made. -/
def Ok : Nat → List En → Prop
  | 0, _ => False
  | f + 1, S => S ≠ [] ∧ (∀ e ∈ restOf S, e.1 ≠ []) ∧ ∀ p ∈ grp (restOf S), Ok f p.2
theorem bulk_nil : bulk [] = 0 := rfl
theorem bulk_cons (e : En) (l : List En) : bulk (e :: l) = e.1.length + 1 + bulk l := by simp [bulk]
theorem bulk_append (a b : List En) : bulk (a ++ b) = bulk a + bulk b := by simp [bulk]
theorem bulk_tl : ∀ l : List En, (∀ e ∈ l, e.1 ≠ []) → bulk (l.map tl) + l.length = bulk l
  | [], _ => rfl
  | e :: r, h => by
    have ih := bulk_tl r fun x hx => h x (by simp [hx])
    have he : 0 < e.1.length := List.length_pos_iff.2 (h e (by simp))
    rw [List.map_cons, bulk_cons, bulk_cons, List.length_cons]
    have : (tl e).1.length = e.1.length - 1 := by simp [tl]
    omega
def bulks (gs : List (Int × List En)) : Nat := (gs.map fun p => bulk p.2).sum
theorem bulks_cons (p : Int × List En) (gs : List (Int × List En)) : bulks (p :: gs) = bulk p.2 + bulks gs := by simp [bulks]
theorem bulks_grp : ∀ (n : Nat) (l : List En), l.length ≤ n → (∀ e ∈ l, e.1 ≠ []) → bulks (grp l) + l.length = bulk l
  | _, [], _, _ => rfl
  | 0, e :: r, h, _ => by simp at h
  | n + 1, e :: r, h, hne => by
    rw [grp_cons, bulks_cons]
    simp only
    have ih := bulks_grp n ((e :: r).drop (lead (hd e) r + 1)) (by rw [List.length_drop]; simp at h ⊢; omega) (fun x hx => hne x (List.mem_of_mem_drop hx))
    have h1 := bulk_tl ((e :: r).take (lead (hd e) r + 1)) (fun x hx => hne x (List.mem_of_mem_take hx))
    have h2 := bulk_append ((e :: r).take (lead (hd e) r + 1)) ((e :: r).drop (lead (hd e) r + 1))
    rw [List.take_append_drop] at h2
    have h3 : ((e :: r).take (lead (hd e) r + 1)).length + ((e :: r).drop (lead (hd e) r + 1)).length = (e :: r).length := by rw [← List.length_append, List.take_append_drop]
    omega
theorem rest_bulk {S : List En} (h : S ≠ []) (hne : ∀ e ∈ restOf S, e.1 ≠ []) : bulks (grp (restOf S)) + 1 ≤ bulk S := by
  have h1 := bulks_grp _ (restOf S) (Nat.le_refl _) hne
  cases S with
  | nil => exact absurd rfl h
  | cons e r =>
    obtain ⟨x, n⟩ := e
    cases x with
    | nil =>
      have h2 : restOf (([], n) :: r) = r := rfl
      rw [h2] at h1 ⊢
      rw [bulk_cons]
      simp
      omega
    | cons c t =>
      have h2 : restOf ((c :: t, n) :: r) = (c :: t, n) :: r := rfl
      rw [h2] at h1 ⊢
      simp only [List.length_cons] at h1
      omega
theorem numSt_pre (b : List St) (s : St) : b <+: (numSt b s).1 := by
  unfold numSt
  split
  · exact List.prefix_refl _
  · exact List.prefix_append _ _
theorem numSt_len (b : List St) (s : St) : (numSt b s).1.length ≤ b.length + 1 ∧ (numSt b s).2 < (numSt b s).1.length ∧ (numSt b s).1[(numSt b s).2]? = some s := by
  unfold numSt
  split
  · rename_i h
    have := List.idxOf_lt_length_of_mem h
    exact ⟨by simp, by simpa using this, by rw [List.getElem?_eq_getElem this, List.getElem_idxOf]⟩
  · exact ⟨by simp, by simp, by simp⟩
theorem arF_facts {f : Nat} {base : Int} (ih : ∀ b S, Ok f S → b <+: (stF f b S).1 ∧ (stF f b S).1.length ≤ b.length + bulk S ∧ (stF f b S).2 < (stF f b S).1.length) :
    ∀ (gs : List (Int × List En)) (b : List St), (∀ p ∈ gs, Ok f p.2) → b <+: (arF (stF f) base b gs).1 ∧ (arF (stF f) base b gs).1.length ≤ b.length + bulks gs
  | [], b, _ => ⟨List.prefix_refl _, by simp [arF, bulks]⟩
  | (c, G) :: r, b, h => by
    obtain ⟨h1, h2, _⟩ := ih b G (h (c, G) (by simp))
    obtain ⟨h4, h5⟩ := arF_facts ih r (stF f b G).1 (fun p hp => h p (by simp [hp]))
    rw [arF, bulks_cons]
    exact ⟨h1.trans h4, by simp only; omega⟩
theorem stF_facts : ∀ (f : Nat) (b : List St) (S : List En), Ok f S → b <+: (stF f b S).1 ∧ (stF f b S).1.length ≤ b.length + bulk S ∧ (stF f b S).2 < (stF f b S).1.length
  | 0, _, _, h => h.elim
  | f + 1, b, S, ⟨h0, h1, h2⟩ => by
    obtain ⟨p1, p2⟩ := arF_facts (base := least S) (stF_facts f) (grp (restOf S)) b h2
    have p3 := rest_bulk h0 h1
    have p4 := numSt_len (arF (stF f) (least S) b (grp (restOf S))).1 ⟨finOf S, outOf S, (arF (stF f) (least S) b (grp (restOf S))).2⟩
    rw [stF]
    exact ⟨p1.trans (numSt_pre _ _), by omega, p4.2.1⟩
/-- One group off. -/
theorem grp_step {k : Nat} {T : List En} {e : En} (h : T[0]? = some e) :
    grp (cut k T) = (hd (e.1.drop k, e.2), cut (k + 1) (T.take (1 + lead (hd (e.1.drop k, e.2)) (cut k (T.drop 1))))) :: grp (cut k (T.drop (1 + lead (hd (e.1.drop k, e.2)) (cut k (T.drop 1))))) := by
  cases T with
  | nil => simp at h
  | cons x r =>
    simp only [List.getElem?_cons_zero, Option.some.injEq] at h
    subst h
    rw [cut_cons, grp_cons, cut_tl, cut_take, cut_drop, cut_cons]
    simp only [List.drop_succ_cons, List.drop_zero, Nat.add_comm 1]
    rw [cut_drop]
theorem bulk_step {k n : Nat} {T : List En} (h : ∀ e ∈ cut k T, e.1 ≠ []) (hn : n ≤ T.length) : bulk (cut (k + 1) (T.take n)) + n + bulk (cut k (T.drop n)) = bulk (cut k T) := by
  have h1 := bulk_tl (cut k (T.take n)) (fun x hx => h x (by rw [cut_take] at hx; exact List.mem_of_mem_take hx))
  rw [← cut_tl, cut_len, List.length_take, Nat.min_eq_left hn] at h1
  rw [h1, ← bulk_append, cut_take, cut_drop, List.take_append_drop]
theorem fin_cut {k : Nat} {l : List En} {e : En} (h : l[0]? = some e) (hk : k ≤ e.1.length) : (e.1.length = k → finOf (cut k l) = true ∧ restOf (cut k l) = cut k (l.drop 1) ∧ outOf (cut k l) = e.2 - least l) ∧ (e.1.length ≠ k → finOf (cut k l) = false ∧ restOf (cut k l) = cut k l ∧ outOf (cut k l) = 0) := by
  cases l with
  | nil => simp at h
  | cons x r =>
    simp only [List.getElem?_cons_zero, Option.some.injEq] at h
    subst h
    have hl := least_cut k (x :: r)
    rw [cut_cons] at hl ⊢
    constructor
    · intro he
      rw [List.drop_of_length_le (by omega)] at hl ⊢
      exact ⟨rfl, rfl, by simp only [outOf]; rw [hl]⟩
    · intro he
      cases hd : x.1.drop k with
      | nil => rw [List.drop_eq_nil_iff] at hd; omega
      | cons c t => exact ⟨rfl, rfl, rfl⟩
theorem least_le {l : List En} {lo hi : Int} (h : l ≠ []) (hw : ∀ e ∈ l, lo ≤ e.2 ∧ e.2 ≤ hi) : lo ≤ least l ∧ least l ≤ hi := by
  obtain ⟨e, he, h1⟩ := least_mem h
  rw [← h1]
  exact hw e he
end Go.Proofs.YthjlihhknaelaaaDoor.Fm

/- A rune's writing, read again: plain numbers and lists; no program is named here. -/
namespace Go.Proofs.YthjlihhknaelaaaDoor.Nums

def u8 (n : Int) : UInt8 := UInt8.ofNat n.toNat
/-- A rune's writing. -/
def wr (r : Int) : List UInt8 := (wrI r).map u8
theorem u8_val {x : Int} (h0 : 0 ≤ x) (h : x < 256) : ((u8 x).toNat : Int) = x := by
  unfold u8
  rw [UInt8.toNat_ofNat_of_lt' (by show x.toNat < 256; omega)]
  omega
theorem u8_back (b : UInt8) {x : Int} (h : x = (b.toNat : Int)) : u8 x = b := by
  subst h; unfold u8; simp
theorem bt_zero (b : UInt8) (l : List UInt8) : bt (b :: l) 0 = (b.toNat : Int) := rfl
theorem bt_succ (b : UInt8) (l : List UInt8) (i : Nat) : bt (b :: l) (i + 1) = bt l i := rfl
theorem wr_len (r : Int) : (wr r).length = (wrI r).length := by simp [wr]

theorem rd_wr {r : Int} (h : isR r = true) (t : List UInt8) : rd (wr r ++ t) = (r, (wrI r).length) := by
  have hb := of_decide_eq_true h
  by_cases a : r < 128
  · have e : wr r = [u8 r] := by unfold wr; rw [wrI1 a]; rfl
    have v := u8_val (x := r) (by omega) (by omega)
    rw [e, wrI1 a, rd_one (by show ((u8 r).toNat : Int) < 128; omega)]
    show (((u8 r).toNat : Int), 1) = _
    rw [v]; rfl
  by_cases b : r < 2048
  · have e : wr r = [u8 (192 + r / 64), u8 (128 + r % 64)] := by unfold wr; rw [wrI2 (by omega) b]; rfl
    have v0 := u8_val (x := 192 + r / 64) (by omega) (by omega)
    have v1 := u8_val (x := 128 + r % 64) (by omega) (by omega)
    rw [e, wrI2 (by omega) b]
    generalize hl : [u8 (192 + r / 64), u8 (128 + r % 64)] ++ t = l
    have b0 : bt l 0 = 192 + r / 64 := by rw [← hl]; exact v0
    have b1 : bt l 1 = 128 + r % 64 := by rw [← hl]; exact v1
    have hn : 2 ≤ l.length := by rw [← hl]; simp
    have ha : acc (ldOf 2) l 2 = r := by show acc 192 l 2 = r; rw [acc2, b0, b1]; omega
    rw [rd_yes (n := 2) (by omega) (by omega) (by rw [b0]; unfold ldSz; rw [if_neg (by omega), if_neg (by omega), if_pos (by omega)]; rfl) hn
      (fun j x y => by obtain rfl : j = 1 := by omega
                       rw [b1]; omega) (by rw [ha]; show (128 : Int) ≤ r; omega) (by rw [ha]; exact h), ha]
    rfl
  by_cases c : r < 65536
  · have e : wr r = [u8 (224 + r / 64 / 64), u8 (128 + r / 64 % 64), u8 (128 + r % 64)] := by unfold wr; rw [wrI3 (by omega) c]; rfl
    have v0 := u8_val (x := 224 + r / 64 / 64) (by omega) (by omega)
    have v1 := u8_val (x := 128 + r / 64 % 64) (by omega) (by omega)
    have v2 := u8_val (x := 128 + r % 64) (by omega) (by omega)
    rw [e, wrI3 (by omega) c]
    generalize hl : [u8 (224 + r / 64 / 64), u8 (128 + r / 64 % 64), u8 (128 + r % 64)] ++ t = l
    have b0 : bt l 0 = 224 + r / 64 / 64 := by rw [← hl]; exact v0
    have b1 : bt l 1 = 128 + r / 64 % 64 := by rw [← hl]; exact v1
    have b2 : bt l 2 = 128 + r % 64 := by rw [← hl]; exact v2
    have hn : 3 ≤ l.length := by rw [← hl]; simp
    have ha : acc (ldOf 3) l 3 = r := by show acc 224 l 3 = r; rw [acc3, b0, b1, b2]; omega
    rw [rd_yes (n := 3) (by omega) (by omega) (by rw [b0]; unfold ldSz; rw [if_neg (by omega), if_neg (by omega), if_neg (by omega), if_pos (by omega)]; rfl) hn
      (fun j x y => by obtain rfl | rfl : j = 1 ∨ j = 2 := by omega
                       · rw [b1]; omega
                       · rw [b2]; omega) (by rw [ha]; show (2048 : Int) ≤ r; omega) (by rw [ha]; exact h), ha]
    rfl
  · have e : wr r = [u8 (240 + r / 64 / 64 / 64), u8 (128 + r / 64 / 64 % 64), u8 (128 + r / 64 % 64), u8 (128 + r % 64)] := by unfold wr; rw [wrI4 (by omega)]; rfl
    have v0 := u8_val (x := 240 + r / 64 / 64 / 64) (by omega) (by omega)
    have v1 := u8_val (x := 128 + r / 64 / 64 % 64) (by omega) (by omega)
    have v2 := u8_val (x := 128 + r / 64 % 64) (by omega) (by omega)
    have v3 := u8_val (x := 128 + r % 64) (by omega) (by omega)
    rw [e, wrI4 (by omega)]
    generalize hl : [u8 (240 + r / 64 / 64 / 64), u8 (128 + r / 64 / 64 % 64), u8 (128 + r / 64 % 64), u8 (128 + r % 64)] ++ t = l
    have b0 : bt l 0 = 240 + r / 64 / 64 / 64 := by rw [← hl]; exact v0
    have b1 : bt l 1 = 128 + r / 64 / 64 % 64 := by rw [← hl]; exact v1
    have b2 : bt l 2 = 128 + r / 64 % 64 := by rw [← hl]; exact v2
    have b3 : bt l 3 = 128 + r % 64 := by rw [← hl]; exact v3
    have hn : 4 ≤ l.length := by rw [← hl]; simp
    have ha : acc (ldOf 4) l 4 = r := by show acc 240 l 4 = r; rw [acc4, b0, b1, b2, b3]; omega
    rw [rd_yes (n := 4) (by omega) (by omega) (by rw [b0]; unfold ldSz; rw [if_neg (by omega), if_neg (by omega), if_neg (by omega), if_neg (by omega), if_pos (by omega)]; rfl) hn
      (fun j x y => by obtain rfl | rfl | rfl : j = 1 ∨ j = 2 ∨ j = 3 := by omega
                       · rw [b1]; omega
                       · rw [b2]; omega
                       · rw [b3]; omega) (by rw [ha]; show (65536 : Int) ≤ r; omega) (by rw [ha]; exact h), ha]
    rfl

theorem take1 {l : List UInt8} (h : l ≠ []) : [u8 (bt l 0)] ++ l.drop 1 = l := by
  cases l with
  | nil => exact absurd rfl h
  | cons b t => simp [u8_back b (bt_zero b t)]
theorem take2 {l : List UInt8} (h : 2 ≤ l.length) : [u8 (bt l 0), u8 (bt l 1)] ++ l.drop 2 = l := by
  cases l with
  | nil => simp at h
  | cons b t =>
    have := take1 (l := t) (by intro e; subst e; simp at h)
    simp [u8_back b (bt_zero b t), bt_succ b t 0] at *
    exact this
theorem take3 {l : List UInt8} (h : 3 ≤ l.length) : [u8 (bt l 0), u8 (bt l 1), u8 (bt l 2)] ++ l.drop 3 = l := by
  cases l with
  | nil => simp at h
  | cons b t =>
    have := take2 (l := t) (by simpa using h)
    simp [u8_back b (bt_zero b t), bt_succ b t 0, bt_succ b t 1] at *
    exact this
theorem take4 {l : List UInt8} (h : 4 ≤ l.length) : [u8 (bt l 0), u8 (bt l 1), u8 (bt l 2), u8 (bt l 3)] ++ l.drop 4 = l := by
  cases l with
  | nil => simp at h
  | cons b t =>
    have := take3 (l := t) (by simpa using h)
    simp [u8_back b (bt_zero b t), bt_succ b t 0, bt_succ b t 1, bt_succ b t 2] at *
    exact this

theorem rd_back {l : List UInt8} (hl : l ≠ []) {r : Int} {n : Nat} (h : rd l = (r, n)) (hn : n ≠ 0) : isR r = true ∧ n = (wrI r).length ∧ l = wr r ++ l.drop n := by
  have hr : isR r = true := by have := rd_isR (l := l) (by rw [h]; exact hn); rw [h] at this; exact this
  have hbd := of_decide_eq_true hr
  have c0 := bt_bd l 0
  refine ⟨hr, ?_⟩
  revert h
  unfold rd
  by_cases a : bt l 0 < 128
  · rw [if_pos a]
    intro e
    obtain ⟨rfl, rfl⟩ := Prod.mk.inj e
    refine ⟨by rw [wrI1 a]; rfl, ?_⟩
    unfold wr
    rw [wrI1 a]
    exact (take1 hl).symm
  rw [if_neg a]
  split
  · rename_i c
    intro e
    obtain ⟨rfl, rfl⟩ := Prod.mk.inj e
    rw [acc2] at *
    have e1 := wrI2 (r := (bt l 0 - 192) * 64 + (bt l 1 - 128)) (by omega) (by omega)
    refine ⟨by rw [e1]; rfl, ?_⟩
    unfold wr
    rw [e1]
    have f0 : 192 + ((bt l 0 - 192) * 64 + (bt l 1 - 128)) / 64 = bt l 0 := by omega
    have f1 : 128 + ((bt l 0 - 192) * 64 + (bt l 1 - 128)) % 64 = bt l 1 := by omega
    rw [f0, f1]
    exact (take2 c.2.2.1).symm
  split
  · rename_i c
    intro e
    obtain ⟨rfl, rfl⟩ := Prod.mk.inj e
    rw [acc3] at *
    have e1 := wrI3 (r := ((bt l 0 - 224) * 64 + (bt l 1 - 128)) * 64 + (bt l 2 - 128)) (by omega) (by omega)
    refine ⟨by rw [e1]; rfl, ?_⟩
    unfold wr
    rw [e1]
    have f0 : 224 + (((bt l 0 - 224) * 64 + (bt l 1 - 128)) * 64 + (bt l 2 - 128)) / 64 / 64 = bt l 0 := by omega
    have f1 : 128 + (((bt l 0 - 224) * 64 + (bt l 1 - 128)) * 64 + (bt l 2 - 128)) / 64 % 64 = bt l 1 := by omega
    have f2 : 128 + (((bt l 0 - 224) * 64 + (bt l 1 - 128)) * 64 + (bt l 2 - 128)) % 64 = bt l 2 := by omega
    rw [f0, f1, f2]
    exact (take3 c.2.2.1).symm
  split
  · rename_i c
    intro e
    obtain ⟨rfl, rfl⟩ := Prod.mk.inj e
    rw [acc4] at *
    have e1 := wrI4 (r := (((bt l 0 - 240) * 64 + (bt l 1 - 128)) * 64 + (bt l 2 - 128)) * 64 + (bt l 3 - 128)) (by omega)
    refine ⟨by rw [e1]; rfl, ?_⟩
    unfold wr
    rw [e1]
    have f0 : 240 + ((((bt l 0 - 240) * 64 + (bt l 1 - 128)) * 64 + (bt l 2 - 128)) * 64 + (bt l 3 - 128)) / 64 / 64 / 64 = bt l 0 := by omega
    have f1 : 128 + ((((bt l 0 - 240) * 64 + (bt l 1 - 128)) * 64 + (bt l 2 - 128)) * 64 + (bt l 3 - 128)) / 64 / 64 % 64 = bt l 1 := by omega
    have f2 : 128 + ((((bt l 0 - 240) * 64 + (bt l 1 - 128)) * 64 + (bt l 2 - 128)) * 64 + (bt l 3 - 128)) / 64 % 64 = bt l 2 := by omega
    have f3 : 128 + ((((bt l 0 - 240) * 64 + (bt l 1 - 128)) * 64 + (bt l 2 - 128)) * 64 + (bt l 3 - 128)) % 64 = bt l 3 := by omega
    rw [f0, f1, f2, f3]
    exact (take4 c.2.2.1).symm
  intro e
  exact absurd (Prod.mk.inj e).2.symm hn

/-- No writing is the beginning of another one's. -/
theorem wr_apart {a b : Int} (ha : isR a = true) (hb : isR b = true) (t : List UInt8) (h : wr a = wr b ++ t) : a = b := by
  have h1 := rd_wr ha []
  have h2 := rd_wr hb t
  rw [List.append_nil, h] at h1
  exact (Prod.mk.inj (h1.symm.trans h2)).1
end Go.Proofs.YthjlihhknaelaaaDoor.Nums

/- Whole texts, written and read: plain lists; no program is named here. -/
namespace Go.Proofs.YthjlihhknaelaaaDoor.Nums

theorem pair_eta (p : Int × Nat) : p = (p.1, p.2) := by cases p; rfl
/-- What was read is written as the same text. -/
theorem rsF_write : ∀ (f : Nat) (l : List UInt8) (xs : List Int), rsF f l = some xs → xs.all isR = true ∧ xs.flatMap wr = l := by
  intro f
  induction f with
  | zero =>
    intro l xs h
    simp only [rsF] at h
    by_cases e : l = []
    · rw [if_pos e] at h; obtain rfl := Option.some.inj h; subst e; simp
    · rw [if_neg e] at h; cases h
  | succ f ih =>
    intro l xs h
    simp only [rsF] at h
    by_cases e : l = []
    · rw [if_pos e] at h; obtain rfl := Option.some.inj h; subst e; simp
    rw [if_neg e] at h
    by_cases z : (rd l).2 = 0
    · rw [if_pos z] at h; cases h
    rw [if_neg z] at h
    cases h2 : rsF f (l.drop (rd l).2) with
    | none => rw [h2] at h; cases h
    | some t =>
      rw [h2] at h
      obtain rfl := Option.some.inj h
      obtain ⟨h3, h4⟩ := ih _ _ h2
      obtain ⟨hr, _, hb⟩ := rd_back e (pair_eta (rd l)) z
      refine ⟨by simp only [List.all_cons, hr, h3, Bool.and_self], ?_⟩
      rw [List.flatMap_cons, h4]
      exact hb.symm
theorem rs_write {l : List UInt8} {xs : List Int} (h : rs l = some xs) : xs.all isR = true ∧ xs.flatMap wr = l := rsF_write _ _ _ h

theorem wr_ne (r : Int) : wr r ≠ [] := by
  intro e; have h := wr_len r; rw [e] at h; have := wrI_len r; simp at h; omega
/-- Behind a rune's writing a text is read on. -/
theorem rs_wr {r : Int} (hr : isR r = true) (t : List UInt8) : rs (wr r ++ t) = (rs t).map (fun xs => r :: xs) := by
  have h := rd_wr hr t
  have hn : wr r ++ t ≠ [] := by
    intro e; exact wr_ne r (List.append_eq_nil_iff.1 e).1
  have hl := wrI_len r
  rw [rs_cons hn (by rw [h]; show (wrI r).length ≠ 0; omega), h]
  show (rs ((wr r ++ t).drop (wrI r).length)).map _ = _
  rw [← wr_len r, List.drop_left]
/-- What was written is read as the same runes. -/
theorem rs_texts : ∀ (xs : List Int), xs.all isR = true → ∀ t, rs (xs.flatMap wr ++ t) = (rs t).map (fun ys => xs ++ ys)
  | [], _, t => by simp
  | x :: xs, h, t => by
    have h1 : isR x = true := by simp at h; exact h.1
    have h2 : xs.all isR = true := by simp at h; simpa using h.2
    rw [List.flatMap_cons, List.append_assoc, rs_wr h1, rs_texts xs h2 t]
    cases rs t <;> simp
theorem rs_text {xs : List Int} (h : xs.all isR = true) : rs (xs.flatMap wr) = some xs := by
  have := rs_texts xs h []
  rw [List.append_nil, rs_nil] at this
  simpa using this
theorem flat_bytes (xs : List Int) : (xs.flatMap wrI).map (fun n => UInt8.ofNat n.toNat) = xs.flatMap wr := by
  induction xs with
  | nil => rfl
  | cons x r ih => rw [List.flatMap_cons, List.flatMap_cons, List.map_append, ih]; rfl
end Go.Proofs.YthjlihhknaelaaaDoor.Nums
