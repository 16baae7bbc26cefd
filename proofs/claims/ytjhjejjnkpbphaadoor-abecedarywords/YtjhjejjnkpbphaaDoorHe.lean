/- Texts that were written apart, joined. -/
import Derived.Test.YtjhjejjnkpbphaaDoorFBld
import Derived.Test.YtjhjejjnkpbphaaDoorPRows
import Derived.RangeFuncNested
import Derived.Test.YtjhjejjnkpbphaaDoorGd
import Derived.Test.YtjhjejjnkpbphaaDoorG2
import Derived.Test.YtjhjejjnkpbphaaDoorG0
import Derived.Test.YtjhjejjnkpbphaaDoorDrawn8
import Derived.Test.YtjhjejjnkpbphaaDoorG3
import Derived.Test.YtjhjejjnkpbphaaDoorG1
import Derived.Test.YtjhjejjnkpbphaaDoorFNum2
import Derived.Test.YtjhjejjnkpbphaaDoorG4
/- An iterator and its consumer: which blocks are whose; ranges over an iterator that writes cells of its own. -/
namespace Go.Proofs.YtjhjejjnkpbphaaDoor
open Go.RowKit Nums Fm
set_option maxRecDepth 100000

def pairV (x : Pr) : Value := .agg #[.string x.1, .int .i64 x.2]
/-- The consumer's blocks may grow by new ones. -/
def Ext (A A' : Nat → Prop) (w : World) : Prop := (∀ k, A k → A' k) ∧ ∀ k, A' k → A k ∨ w.heap.size ≤ k
theorem Ext.refl (A : Nat → Prop) (w : World) : Ext A A w := ⟨fun _ h => h, fun _ h => .inl h⟩
theorem Ext.trans {A A' A'' : Nat → Prop} {w w' : World} (h : Ext A A' w) (h' : Ext A' A'' w') (hs : w.heap.size ≤ w'.heap.size) : Ext A A'' w :=
  ⟨fun k hk => h'.1 k (h.1 k hk), fun k hk => (h'.2 k hk).elim (h.2 k) (fun g => .inr (Nat.le_trans hs g))⟩
abbrev CI := (Nat → Prop) → List Pr → World → Prop
/-- The consumer's word minds its own blocks alone, and those below B. -/
def Minds (B : Nat) (I : CI) : Prop := ∀ A pre W W', I A pre W → Upd (fun k => ¬ A k ∧ B ≤ k) W W' → I A pre W'
/-- The blocks lie. -/
def Lies (A : Nat → Prop) (W : World) : Prop := ∀ k, A k → k < W.heap.size
/-- The consumer is called. -/
def YC (yv : Value) (x : Pr) (W : World) (R : Ending → World → Prop) : Prop :=
  (∃ c0 c1, yv = .func (.func 34) #[] #[c0, c1] ∧ Calls Tryd.prog 34 #[pairV x, c0, c1] W R) ∨
  (∃ l, yv = .func (.yield l) #[] #[] ∧ ∀ m, YieldAt Fence.wide m Tryd.prog l #[pairV x] W R)
theorem YC.mono {yv : Value} {x : Pr} {W : World} {R R' : Ending → World → Prop} (h : YC yv x W R) (hr : ∀ e w, R e w → R' e w) : YC yv x W R' := by
  rcases h with ⟨c0, c1, h1, h3⟩ | ⟨l, h1, h2⟩
  · exact .inl ⟨c0, c1, h1, h3.mono hr⟩
  · refine .inr ⟨l, h1, fun m => ?_⟩
    obtain ⟨fn, tmps, asg, bd, hy, hR⟩ := h2 m
    exact ⟨fn, tmps, asg, bd, hy, hR.mono hr⟩
def YPost (I X : CI) (A : Nat → Prop) (pre : List Pr) (x : Pr) (W : World) (e : Ending) (W' : World) : Prop :=
  (e = .returned (.bool true) ∧ ∃ A', Ext A A' W ∧ Lies A' W' ∧ Upd A W W' ∧ I A' (pre ++ [x]) W') ∨ (e = .returned (.bool false) ∧ ∃ A', Ext A A' W ∧ Lies A' W' ∧ Upd A W W' ∧ X A' (pre ++ [x]) W')
def Yields (yv : Value) (I X : CI) : Prop := ∀ A pre x W, I A pre W → Lies A W → YC yv x W (YPost I X A pre x W)
/-- What an iterator says: L, one by one, or a part of it. -/
def SeqIs (S : (Nat → Prop) → World → Prop) (gf : Nat) (lb : Array Value) (L : List Pr) : Prop :=
  ∀ (yv : Value) (I X : CI) A W, (∃ fn cb, yv = .func fn #[] cb) → S A W → Minds W.heap.size I → Minds W.heap.size X → Yields yv I X → I A [] W → Lies A W → Calls Tryd.prog gf (#[yv] ++ lb) W fun e W' => (∃ v, e = .returned v) ∧
    ((∃ A', Ext A A' W ∧ Lies A' W' ∧ Upd A W W' ∧ I A' L W') ∨ ∃ q A', q <+: L ∧ Ext A A' W ∧ Lies A' W' ∧ Upd A W W' ∧ X A' q W')
theorem Upd.put {W : World} (l : Nat) (o : Obj) : Upd (fun k => k = l) W (W.putObj l o) :=
  ⟨rfl, rfl, rfl, by simp, fun k _ hk => World.putObj_heap_other hk⟩
/-- What the body of a round must come to. -/
def roundQ (I : CI) (X : Code → CI) (A : Nat → Prop) (pre : List Pr) (x : Pr) (W : World) : Exit → Act → World → Prop
  | .normal, _, W' => ∃ A', Ext A A' W ∧ Lies A' W' ∧ Upd A W W' ∧ I A' (pre ++ [x]) W'
  | .ret, _, W' => ∃ A', Ext A A' W ∧ Lies A' W' ∧ Upd A W W' ∧ X .ret A' (pre ++ [x]) W'
  | .exit i, _, W' => ∃ A', Ext A A' W ∧ Lies A' W' ∧ Upd A W W' ∧ X (.exit i) A' (pre ++ [x]) W'
  | .goto t, _, W' => ∃ A', Ext A A' W ∧ Lies A' W' ∧ Upd A W W' ∧ X (.goto t) A' (pre ++ [x]) W'
  | _, _, _ => False
set_option maxHeartbeats 1000000 in
theorem wp_rangeC {g : Operand} {ps : Array Tmp} {assign body : Code} {Q : Exit → Act → World → Prop} {a : Act} {w : World} {gf : Nat} {lb : Array Value} {S : (Nat → Prop) → World → Prop} {L : List Pr}
    (hg : a.eval g = .func (.func gf) #[] lb) (eg : ∀ args w, (callFunc gf args).run Tryd.prog w = .ok (.enter gf args) w) (hseq : SeqIs S gf lb L) (hps : ps.size = 1)
    (I : CI) (X : Code → CI) (A : Nat → Prop) (hA : Lies A w) (hS : ∀ W, Below w.heap.size w W → S (fun k => A k ∨ k = w.heap.size + 1 ∨ k = w.heap.size) W) (hI : Minds w.heap.size I)
    (hX : ∀ c, Minds w.heap.size (X c)) (h0 : I A [] w)
    (hround : ∀ n l A pre x W, I A pre W → Lies A W → ¬ A (w.heap.size + 1) → w.heap.size + 1 < W.heap.size → assign.wpIn (Fence.wide.inRound l) n Tryd.prog (Exit.then (fun a1 W1 => Upd (fun _ => False) W W1 ∧ ∀ W2, Upd (fun k => k = w.heap.size + 1) W1 W2 → body.wpIn (Fence.wide.inRound l) n Tryd.prog (roundQ I X A pre x W2) a1 W2) (fun _ _ _ => False)) { tmps := (ps.zip #[pairV x]).foldl (fun t (p, v) => t.setIfInBounds p v) a.tmps, defers := [] } W)
    (hdone : ∀ A' W, Lies A' W → I A' L W → W.heap[w.heap.size]? = some (.deferred (some [])) → Q .normal { a with defers := { target := .collected w.heap.size, args := #[] } :: a.defers } W)
    (hstop : ∀ c A' q W, q <+: L → Lies A' W → X c A' q W → W.heap[w.heap.size]? = some (.deferred (some [])) → c.wp Tryd.prog Q { a with defers := { target := .collected w.heap.size, args := #[] } :: a.defers } W) :
    (Code.rangeFunc g ps assign body).wp Tryd.prog Q a w := by
  refine (wpIn_wide (n := 0)).1 (wpIn_rangeFunc ?_)
  intro fn hfn
  rw [Fence.wide_round]
  obtain ⟨rec, hrec⟩ : ∃ rec : LoopState → Option Code → Loop, rec = fun st pe => { state := st, pending := pe, fn, tmps := a.tmps, params := ps, assign, body, defers := w.heap.size } := ⟨_, rfl⟩
  obtain ⟨W1, hW1⟩ : ∃ W1, (w.alloc (.deferred (some []))).alloc (.loop (rec .ready none)) = W1 := ⟨_, rfl⟩
  have hL1 : W1.heap[w.heap.size + 1]? = some (.loop (rec .ready none)) := by
    rw [← hW1]; have := World.alloc_heap_new (w.alloc (.deferred (some []))) (.loop (rec .ready none)); rwa [World.size_alloc] at this
  have hK1 : W1.heap[w.heap.size]? = some (.deferred (some [])) := by
    rw [← hW1]; exact (Below.heap_alloc _ _ _ (by simp)).trans (World.alloc_heap_new w _)
  have hb1 : Below w.heap.size w W1 := by rw [← hW1]; exact ((Below.refl _ w).alloc (Nat.le_refl _) _).alloc (by simp) _
  have hs1 : w.heap.size + 1 < W1.heap.size := (Array.getElem?_eq_some_iff.1 hL1).1
  let IA : CI := fun A2 pre W => ∃ A, (∀ k, A2 k ↔ A k ∨ k = w.heap.size + 1 ∨ k = w.heap.size) ∧ ¬ A (w.heap.size + 1) ∧ ¬ A w.heap.size ∧ Lies A W ∧ W.heap[w.heap.size + 1]? = some (.loop (rec .ready none)) ∧ W.heap[w.heap.size]? = some (.deferred (some [])) ∧ I A pre W
  let IX : CI := fun A2 pre W => ∃ A c, (∀ k, A2 k ↔ A k ∨ k = w.heap.size + 1 ∨ k = w.heap.size) ∧ ¬ A (w.heap.size + 1) ∧ ¬ A w.heap.size ∧ Lies A W ∧ W.heap[w.heap.size + 1]? = some (.loop (rec .done (some c))) ∧ W.heap[w.heap.size]? = some (.deferred (some [])) ∧ X c A pre W
  refine ⟨w.heap.size + 1, [{ target := .collected w.heap.size, args := #[] }], W1, { target := .fn (.func gf) lb, args := #[.func (.yield (w.heap.size + 1)) #[] #[]] }, W1, gf,
    #[.func (.yield (w.heap.size + 1)) #[] #[]] ++ lb, W1, ?_, ?_, fun _ _ => trivial, ?_, fun h => by simp [Fence.wide] at h, ?_⟩
  · rw [← hW1, hrec]; exact run_enterLoop_outer _ _ _ _ _
  · simp only [resolve, hg]
    simp [go_sem]
  · simp [invoke, go_sem, eg]
  · refine callsIn_wide.2 ((hseq (.func (.yield (w.heap.size + 1)) #[] #[]) IA IX (fun k => A k ∨ k = w.heap.size + 1 ∨ k = w.heap.size) W1 ⟨_, _, rfl⟩ (hS W1 hb1) ?_ ?_ ?_ ?_ ?_).mono ?_)
    · rintro A2 pre W W' ⟨B, hiff, n1, n2, hl, hr, hd, hi⟩ hu
      refine ⟨B, hiff, n1, n2, fun k hk => Nat.lt_of_lt_of_le (hl k hk) hu.size, ?_, ?_, hI _ _ _ _ hi (hu.mono fun k ⟨h1, h2⟩ => ⟨fun h => h1 ((hiff k).2 (.inl h)), by omega⟩)⟩
      · exact (hu.block _ (Array.getElem?_eq_some_iff.1 hr).1 (fun h => h.1 ((hiff _).2 (.inr (.inl rfl))))).trans hr
      · exact (hu.block _ (Array.getElem?_eq_some_iff.1 hd).1 (fun h => h.1 ((hiff _).2 (.inr (.inr rfl))))).trans hd
    · rintro A2 pre W W' ⟨B, c, hiff, n1, n2, hl, hr, hd, hi⟩ hu
      refine ⟨B, c, hiff, n1, n2, fun k hk => Nat.lt_of_lt_of_le (hl k hk) hu.size, ?_, ?_, hX c _ _ _ _ hi (hu.mono fun k ⟨h1, h2⟩ => ⟨fun h => h1 ((hiff k).2 (.inl h)), by omega⟩)⟩
      · exact (hu.block _ (Array.getElem?_eq_some_iff.1 hr).1 (fun h => h.1 ((hiff _).2 (.inr (.inl rfl))))).trans hr
      · exact (hu.block _ (Array.getElem?_eq_some_iff.1 hd).1 (fun h => h.1 ((hiff _).2 (.inr (.inr rfl))))).trans hd
    · rintro A2 pre x W ⟨B, hiff, n1, n2, hl, hr, hd, hi⟩ hlies
      refine .inr ⟨w.heap.size + 1, rfl, fun m => ?_⟩
      have hlt : w.heap.size + 1 < W.heap.size := (Array.getElem?_eq_some_iff.1 hr).1
      have hy := run_yield (P := Tryd.prog) (args := #[pairV x]) hr (by rw [hrec]; exact hps.symm)
      rw [hrec] at hy
      refine ⟨fn, _, assign, body, hy, roundIn_of_wpIn hfn (wpIn_mono (hround m (w.heap.size + 1) B pre x W hi hl n1 hlt) ?_)⟩
      clear hy
      intro e0 a0 Wa hp0
      cases e0 with
      | exit _ => exact hp0.elim
      | goto _ => exact hp0.elim
      | ret => exact hp0.elim
      | panic _ => exact hp0.elim
      | outgrown => exact hp0.elim
      | normal =>
      obtain ⟨hu0, hbody⟩ := hp0
      have hra : Wa.heap[w.heap.size + 1]? = some (.loop (rec .ready none)) := (hu0.block _ hlt id).trans hr
      have hda : Wa.heap[w.heap.size]? = some (.deferred (some [])) := (hu0.block _ (by omega) id).trans hd
      have hlta : w.heap.size + 1 < Wa.heap.size := (Array.getElem?_eq_some_iff.1 hra).1
      refine ⟨_, run_beginRound hra (by rw [hrec]), ?_⟩
      have hu1' : Upd (fun k => k = w.heap.size + 1) Wa (Wa.putObj (w.heap.size + 1) (.loop { rec .ready none with state := .busy })) := Upd.put _ _
      have hl2 : (Wa.putObj (w.heap.size + 1) (.loop { rec .ready none with state := .busy })).heap[w.heap.size + 1]? = some (.loop { rec .ready none with state := .busy }) := World.putObj_heap_same hlta
      have hk2 : (Wa.putObj (w.heap.size + 1) (.loop { rec .ready none with state := .busy })).heap[w.heap.size]? = some (.deferred (some [])) := (World.putObj_heap_other (by omega)).trans hda
      have hbody2 := hbody _ hu1'
      clear hbody
      generalize (Wa.putObj (w.heap.size + 1) (.loop { rec .ready none with state := .busy })) = Wb at hu1' hl2 hk2 hbody2
      have hu1 : Upd (fun k => k = w.heap.size + 1) W Wb := (hu0.mono fun k h => h.elim).trans hu1' (fun _ _ h => h)
      have hszb : w.heap.size + 1 < Wb.heap.size := (Array.getElem?_eq_some_iff.1 hl2).1
      refine wpIn_mono hbody2 ?_
      have fin : ∀ (jump : Option Code) (W3 : World), Upd B Wb W3 →
          (Instr.endRound (w.heap.size + 1) jump).run Tryd.prog W3 = .ok (.bool jump.isNone) (W3.putObj (w.heap.size + 1) (.loop (rec (if jump.isNone then .ready else .done) jump))) ∧
          (W3.putObj (w.heap.size + 1) (.loop (rec (if jump.isNone then .ready else .done) jump))).heap[w.heap.size + 1]? = some (.loop (rec (if jump.isNone then .ready else .done) jump)) ∧
          (W3.putObj (w.heap.size + 1) (.loop (rec (if jump.isNone then .ready else .done) jump))).heap[w.heap.size]? = some (.deferred (some [])) := fun jump W3 hu3 => by
        have hl3 := (hu3.block _ hszb n1).trans hl2
        have hd3 := (hu3.block _ (by omega) n2).trans hk2
        have := run_endRound (P := Tryd.prog) jump hl3
        rw [hrec] at this ⊢
        exact ⟨this, World.putObj_heap_same (Array.getElem?_eq_some_iff.1 hl3).1, (World.putObj_heap_other (by omega)).trans hd3⟩
      have out : ∀ (Z : CI) (B' : Nat → Prop) (W3 : World) (o : Obj), Minds w.heap.size Z → Ext B B' Wb → Lies B' W3 → Upd B Wb W3 → Z B' (pre ++ [x]) W3 →
          Ext A2 (fun k => B' k ∨ k = w.heap.size + 1 ∨ k = w.heap.size) W ∧ Lies (fun k => B' k ∨ k = w.heap.size + 1 ∨ k = w.heap.size) (W3.putObj (w.heap.size + 1) o) ∧ Upd A2 W (W3.putObj (w.heap.size + 1) o) ∧ ¬ B' (w.heap.size + 1) ∧ ¬ B' w.heap.size ∧ Lies B' (W3.putObj (w.heap.size + 1) o) ∧ Z B' (pre ++ [x]) (W3.putObj (w.heap.size + 1) o) := fun Z B' W3 o hZ he hl3 hu3 hi3 => by
        have m1 : ¬ B' (w.heap.size + 1) := fun h => (he.2 _ h).elim n1 (fun g => by omega)
        have m2 : ¬ B' w.heap.size := fun h => (he.2 _ h).elim n2 (fun g => by omega)
        have hu4 : Upd (fun k => k = w.heap.size + 1) W3 (W3.putObj (w.heap.size + 1) o) := Upd.put _ _
        refine ⟨⟨fun k hk => ?_, fun k hk => ?_⟩, fun k hk => ?_, ?_, m1, m2, fun k hk => by rw [World.putObj_size]; exact hl3 k hk, hZ _ _ _ _ hi3 (hu4.mono fun k e => by subst e; exact ⟨m1, by omega⟩)⟩
        · rcases (hiff k).1 hk with h | h
          · exact .inl (he.1 k h)
          · exact .inr h
        · rcases hk with h | h
          · rcases he.2 k h with h | h
            · exact .inl ((hiff k).2 (.inl h))
            · exact .inr (Nat.le_trans hu1.size h)
          · exact .inl ((hiff k).2 (.inr h))
        · rw [World.putObj_size]
          have := hu3.size
          rcases hk with h | h | h
          · exact hl3 k h
          · omega
          · omega
        · exact ((hu1.mono (G := A2) fun k e => (hiff k).2 (.inr (.inl e))).trans (hu3.mono (G := A2) fun k h => (hiff k).2 (.inl h)) (fun _ _ h => h)).trans (hu4.mono (G := A2) fun k e => (hiff k).2 (.inr (.inl e))) (fun _ _ h => h)
      rintro e a3 W3 hp
      cases e with
      | normal =>
        obtain ⟨B', he, hl3, hu3, hi3⟩ := hp
        obtain ⟨hr', f1, f2⟩ := fin none W3 hu3
        obtain ⟨g1, g2, g3, m1, m2, g4, g5⟩ := out I B' W3 _ hI he hl3 hu3 hi3
        exact ⟨_, _, hr', .inl ⟨rfl, _, g1, g2, g3, B', fun k => Iff.rfl, m1, m2, g4, f1, f2, g5⟩⟩
      | ret =>
        obtain ⟨B', he, hl3, hu3, hi3⟩ := hp
        obtain ⟨hr', f1, f2⟩ := fin (some .ret) W3 hu3
        obtain ⟨g1, g2, g3, m1, m2, g4, g5⟩ := out (X .ret) B' W3 _ (hX _) he hl3 hu3 hi3
        exact ⟨_, _, hr', .inr ⟨rfl, _, g1, g2, g3, B', .ret, fun k => Iff.rfl, m1, m2, g4, f1, f2, g5⟩⟩
      | exit id =>
        obtain ⟨B', he, hl3, hu3, hi3⟩ := hp
        obtain ⟨hr', f1, f2⟩ := fin (some (.exit id)) W3 hu3
        obtain ⟨g1, g2, g3, m1, m2, g4, g5⟩ := out (X (.exit id)) B' W3 _ (hX _) he hl3 hu3 hi3
        exact ⟨_, _, hr', .inr ⟨rfl, _, g1, g2, g3, B', .exit id, fun k => Iff.rfl, m1, m2, g4, f1, f2, g5⟩⟩
      | goto t =>
        obtain ⟨B', he, hl3, hu3, hi3⟩ := hp
        obtain ⟨hr', f1, f2⟩ := fin (some (.goto t)) W3 hu3
        obtain ⟨g1, g2, g3, m1, m2, g4, g5⟩ := out (X (.goto t)) B' W3 _ (hX _) he hl3 hu3 hi3
        exact ⟨_, _, hr', .inr ⟨rfl, _, g1, g2, g3, B', .goto t, fun k => Iff.rfl, m1, m2, g4, f1, f2, g5⟩⟩
      | panic ch => exact hp.elim
      | outgrown => exact hp.elim
    · refine ⟨A, fun k => Iff.rfl, fun h => ?_, fun h => ?_, fun k hk => Nat.lt_of_lt_of_le (hA k hk) hb1.size, hL1, hK1, hI _ _ _ _ h0 (Upd.of_below hb1)⟩
      · have := hA _ h; omega
      · have := hA _ h; omega
    · rintro k (h | h | h)
      · exact Nat.lt_of_lt_of_le (hA k h) hb1.size
      · omega
      · omega
    · rintro e W2 ⟨⟨v, rfl⟩, ⟨A', he, hl2, hu2, B, hiff, n1, n2, hl, hr, hd, hi⟩ | ⟨q, A', hq, he, hl2, hu2, B, c, hiff, n1, n2, hl, hr, hd, hx⟩⟩
      · refine ⟨none, _, by have := run_endLoop (P := Tryd.prog) hr (by rw [hrec]; simp); rw [hrec] at this; exact this, ?_⟩
        exact hdone B _ (fun k hk => by rw [World.putObj_size]; exact hl k hk) (hI _ _ _ _ hi ((Upd.put _ _).mono fun k e => by subst e; exact ⟨n1, by omega⟩)) ((World.putObj_heap_other (by omega)).trans hd)
      · refine ⟨some c, _, by have := run_endLoop (P := Tryd.prog) hr (by rw [hrec]; simp); rw [hrec] at this; exact this, ?_⟩
        exact (wpIn_wide (n := 0)).2 (hstop c B q _ hq (fun k hk => by rw [World.putObj_size]; exact hl k hk) (hX c _ _ _ _ hx ((Upd.put _ _).mono fun k e => by subst e; exact ⟨n1, by omega⟩)) ((World.putObj_heap_other (by omega)).trans hd))
end Go.Proofs.YtjhjejjnkpbphaaDoor

/- What a walk tells of a dictionary's machine: mathematics. -/
namespace Go.Proofs.YtjhjejjnkpbphaaDoor.Pk
open Go.Proofs.YtjhjejjnkpbphaaDoor.Nums Go.Proofs.YtjhjejjnkpbphaaDoor.Fm Go.Proofs.YtjhjejjnkpbphaaDoor

/-- What is told behind a beginning. -/
def ud (head : List Int) (sum : Int) (R : List En) : List En := R.map fun e => (head ++ e.1, sum + e.2)
theorem ud_append (head : List Int) (sum : Int) (R S : List En) : ud head sum (R ++ S) = ud head sum R ++ ud head sum S := List.map_append
theorem ud_len (head : List Int) (sum : Int) (R : List En) : (ud head sum R).length = R.length := by simp [ud]
theorem ud_arc (head : List Int) (sum c o : Int) (R : List En) : ud head sum ((shift o R).map (pre c)) = ud (head ++ [c]) (sum + o) R := by
  simp only [ud, shift, List.map_map]
  refine List.map_congr_left fun e _ => ?_
  simp only [Function.comp, pre, List.append_assoc, List.singleton_append, Prod.mk.injEq, true_and]
  omega
/-- By the end of some arcs. -/
def udA (D : List (List En)) (head : List Int) (sum : Int) (l : List Arc) : List En := l.flatMap fun a => ud (head ++ [a.label]) (sum + a.out) (D[a.to]?.getD [])
def udF (head : List Int) (sum : Int) (s : St) : List En := if s.final then [(head, sum + s.out)] else []
theorem udA_snoc (D : List (List En)) (head : List Int) (sum : Int) (l : List Arc) (a : Arc) : udA D head sum (l ++ [a]) = udA D head sum l ++ ud (head ++ [a.label]) (sum + a.out) (D[a.to]?.getD []) := by simp [udA]
theorem ud_flat (D : List (List En)) (head : List Int) (sum : Int) : ∀ l : List Arc, ud head sum (flat (outs D l)) = udA D head sum l
  | [] => rfl
  | a :: l => by
    have e : flat (outs D (a :: l)) = (shift a.out (D[a.to]?.getD [])).map (pre a.label) ++ flat (outs D l) := by simp [flat, outs]
    rw [e, ud_append, ud_arc, ud_flat D head sum l]
    simp [udA]
theorem ud_exp (D : List (List En)) (s : St) (head : List Int) (sum : Int) : ud head sum (exp D s) = udF head sum s ++ udA D head sum s.arcs := by
  rw [exp, ud_append, ud_flat]
  congr 1
  unfold fins udF ud
  cases s.final <;> simp
/-- How many. -/
theorem exp_len (D : List (List En)) (s : St) : (exp D s).length = (if s.final then 1 else 0) + (s.arcs.map fun a => (D[a.to]?.getD []).length).sum := by
  have h := congrArg List.length (ud_exp D s [] 0)
  rw [ud_len, List.length_append] at h
  rw [h]
  congr 1
  · unfold udF; cases s.final <;> rfl
  · unfold udA
    rw [List.length_flatMap]
    congr 1
    exact List.map_congr_left fun a _ => ud_len _ _ _
/-- What is known of a dictionary's machine. -/
structure MW (l : List Pr) (base : Int) (b : List St) (D : List (List En)) : Prop where
  inv : Inv D b
  rst : Rests base D
  ne : b ≠ []
  root : D[b.length - 1]? = some (level (ents l))
  top : ud [] base (level (ents l)) = ents l
theorem mach_walk {l : List Pr} (h : buildE l = 0) (hl : l ≠ []) : ∃ D, MW l (machOf l).1 (machOf l).2 D := by
  have hg := dict_good h hl
  obtain ⟨D, M⟩ := stF_spec 25 [] [] (ents l) Inv.nil hg
  obtain ⟨D2, hI2, hR⟩ := dict_rests h hl
  have e := inv_one M.inv hI2
  subst e
  have hrl : (stF 25 [] (ents l)).2 + 1 = (stF 25 [] (ents l)).1.length := root_last (f := 24) hg
  have hM : machOf l = (least (ents l), (stF 25 [] (ents l)).1) := by rw [machOf, if_pos ⟨h, hl⟩]
  rw [hM]
  refine ⟨D, M.inv, hR, fun e => ?_, ?_, ?_⟩
  · simp only at e
    rw [e] at hrl
    simp at hrl
  · simp only
    rw [← hrl, Nat.add_sub_cancel]
    exact M.num
  · have : shift (least (ents l)) (level (ents l)) = ents l := by rw [shift_level, Int.sub_self, shift_zero]
    conv => rhs; rw [← this]
    unfold ud shift
    refine List.map_congr_left fun e _ => ?_
    simp only [List.nil_append, Prod.mk.injEq, true_and]
    omega
/-- Pairs of entries. -/
def prW (e : En) : Pr := (textS e.1, e.2)
theorem text_entW {x : Pr} (hx : ∃ xs, rs x.1.data.toList = some xs) : textS (entOf x).1 = x.1 := by
  obtain ⟨xs, hx⟩ := hx
  obtain ⟨h1, h2⟩ := rs_write hx
  have e : (entOf x).1 = xs := by rw [entOf, hx]; rfl
  rw [e]
  have h1' : allR xs = true := h1
  unfold textS
  rw [if_pos h1']
  have h3 : (xs.flatMap wrI).map (fun n => UInt8.ofNat n.toNat) = x.1.data.toList := by
    rw [← h2, List.map_flatMap]
    rfl
  unfold strOfNums
  rw [h3]
theorem prs_entsW {l : List Pr} (h : Wd l) : (ents l).map prW = l := by
  unfold ents
  rw [List.map_map]
  conv => rhs; rw [← List.map_id l]
  refine List.map_congr_left fun x hx => ?_
  obtain ⟨xs, h1, _⟩ := h x hx
  simp only [Function.comp, id]
  exact Prod.ext (text_entW ⟨xs, h1⟩) rfl
/-- What may be told behind a beginning. -/
structure Tells (base : Int) (head : List Int) (sum : Int) (R : List En) : Prop where
  ln : ∀ e ∈ R, head.length + e.1.length ≤ 24
  wt : ∀ e ∈ R, sum + e.2 ≤ 1048576
  lo : 0 ≤ sum
  hr : ∀ c ∈ head, wordR c = true
theorem Tells.arc {base : Int} {D : List (List En)} {b : List St} (hI : Inv D b) (hR : Rests base D) {i : Nat} {s : St} (hi : b[i]? = some s) {head : List Int} {sum : Int} (h : Tells base head sum (exp D s)) {a : Arc} (ha : a ∈ s.arcs) : Tells base (head ++ [a.label]) (sum + a.out) (D[a.to]?.getD []) ∧ head.length < 24 ∧ sum + a.out ≤ 1048576 := by
  obtain ⟨e1, e2, e3⟩ := hI.row i s hi
  have ht := e3.to a ha
  have hg : D[a.to]?.getD [] = D[a.to] := by rw [List.getElem?_eq_getElem ht]; rfl
  obtain ⟨f1, f2, f3, f4⟩ := arc_facts hI hR hi a ha
  rw [hg]
  have hne := hR.ne _ (List.getElem_mem ht)
  obtain ⟨e0, he0⟩ := List.exists_mem_of_ne_nil _ hne
  have key : ∀ e ∈ D[a.to], head.length + 1 + e.1.length ≤ 24 ∧ sum + a.out + e.2 ≤ 1048576 := fun e he => by
    have hin := arc_in ha ht he
    have h1 := h.ln _ hin
    have h2 := h.wt _ hin
    simp only [List.length_cons] at h1 h2
    omega
  have hk0 := key e0 he0
  have hn0 := hR.nn _ (List.getElem_mem ht) e0 he0
  have hlo := h.lo
  refine ⟨⟨fun e he => ?_, fun e he => (key e he).2, by omega, fun c hc => ?_⟩, by omega, by omega⟩
  · have := (key e he).1
    simp only [List.length_append, List.length_singleton]
    omega
  · rcases List.mem_append.1 hc with hc | hc
    · exact h.hr c hc
    · rw [List.mem_singleton.1 hc]; exact f4
theorem MW.tells {l : List Pr} {base : Int} {b : List St} {D : List (List En)} (h : MW l base b D) : Tells base [] base (level (ents l)) := by
  have hm := List.mem_of_getElem? h.root
  refine ⟨fun e he => by simpa using h.rst.ln _ hm e he, fun e he => ?_, by have := h.rst.lo; omega, fun c hc => by cases hc⟩
  have := h.rst.wt _ hm e he
  omega
theorem word_allR {xs : List Int} (h : ∀ c ∈ xs, wordR c = true) : allR xs = true := by
  unfold allR
  refine List.all_eq_true.2 fun c hc => ?_
  have := h c hc
  unfold wordR at this
  simp only [Bool.and_eq_true] at this
  exact this.1
end Go.Proofs.YtjhjejjnkpbphaaDoor.Pk

/- Cut: what the seat's translation lacks is left out. -/
/- A walk in memory; its root, its base, how many words. -/
namespace Go.Proofs.YtjhjejjnkpbphaaDoor
open Go.RowKit Nums Fm Pk
set_option maxRecDepth 100000

def cellsN (c : Nat) : List Value := [.int .i64 (c : Int)]
theorem rtyN : RTy 3 73 1 8 := ⟨by kernel_rfl, ⟨.int .i64 0, by kernel_rfl, rfl⟩, by decide, by decide⟩
/-- A walk that is read. -/
structure WkAt (E : Nat) (w : World) (wb : Nat) (base : Int) (m : List RSt) (cs : List Nat) : Prop where
  lt : wb < E
  ex : ∃ vs vw, w.heap[wb]? = some (.cells #[.int .i64 base, vs, vw] 76) ∧ StsAt E w vs m ∧ GRow E 1 w vw (cs.map cellsN)
theorem WkAt.below {E : Nat} {w w' : World} {wb : Nat} {base : Int} {m : List RSt} {cs : List Nat} (h : WkAt E w wb base m cs) (hb : Below E w w') : WkAt E w' wb base m cs := by
  obtain ⟨vs, vw, h1, h2, h3⟩ := h.ex
  exact ⟨h.lt, vs, vw, (hb.block wb h.lt).trans h1, h2.below hb, h3.below hb⟩
theorem WkAt.facts {E : Nat} {w : World} {wb : Nat} {base : Int} {m : List RSt} {cs : List Nat} (h : WkAt E w wb base m cs) : ∃ sd sc wd wc, w.cell? ⟨wb, 0, none⟩ = some (.int .i64 base) ∧ w.cell? ⟨wb, 1, none⟩ = some (.slice sd m.length sc) ∧ w.cell? ⟨wb, 2, none⟩ = some (.slice wd cs.length wc) ∧ StsAt E w (.slice sd m.length sc) m ∧ GRow E 1 w (.slice wd cs.length wc) (cs.map cellsN) := by
  obtain ⟨vs, vw, h1, h2, h3⟩ := h.ex
  obtain ⟨sd, sc, rfl⟩ := h2.shape
  obtain ⟨wd, wc, rfl⟩ := h3.shape
  rw [List.length_map] at h1 h3
  exact ⟨sd, sc, wd, wc, by simp [World.cell?, h1], by simp [World.cell?, h1], by simp [World.cell?, h1], h2, h3⟩
/-- One number of a row. -/
theorem GRow.num {E : Nat} {w : World} {ad : Option Addr} {n cap : Nat} {cs : List Nat} (h : GRow E 1 w (.slice ad n cap) (cs.map cellsN)) {k c : Nat} (hc : cs[k]? = some c) : ∃ g off, ad = some ⟨g, off, none⟩ ∧ g < E ∧ w.cell? ⟨g, off + k, none⟩ = some (.int .i64 (c : Int)) := by
  obtain ⟨ad', cap', hv, hx⟩ := h.ex
  simp only [Value.slice.injEq] at hv
  have hk := (List.getElem?_eq_some_iff.1 hc).1
  obtain ⟨g, off, rfl, hg, hx⟩ := hx (by rw [List.length_map]; omega)
  have e : (cs.map cellsN)[k]? = some (cellsN c) := by rw [List.getElem?_map, hc]; rfl
  have := hx k 0 _ _ e rfl
  rw [Nat.mul_one, Nat.add_zero] at this
  exact ⟨g, off, hv.1, hg, this⟩
set_option maxHeartbeats 1000000 in
theorem Root_any (E : Nat) (w : World) (wb : Nat) (base : Int) (m : List RSt) (cs : List Nat) (h : WkAt E w wb base m cs) :
    Calls Tryd.prog 43 #[.pointer (some ⟨wb, 0, none⟩)] w fun e w' => e = .returned (.int .i64 ((m.length : Int) - 1)) ∧ w' = w := by
  obtain ⟨sd, sc, wd, wc, c0, c1, c2, hS, _⟩ := h.facts
  have hl := hS.len
  go_enter Tryd.func43, Tryd.ntmps43
  go_wp2
  go_ret
  exact ⟨by go_num, rfl⟩
end Go.Proofs.YtjhjejjnkpbphaaDoor

/- cloned, counted. -/
namespace Go.Proofs.YtjhjejjnkpbphaaDoor
open Go.RowKit Go.Shelf Nums Fm Pk
set_option maxRecDepth 1000000
shelf_lay_g SlLaysE0.n41 Slgn 41 at Tryd 65 as cloneAr

theorem arcs_cells (l : List RArc) : ∀ x ∈ l.map cellsRA, Cells 3 x := fun x hx => by
  obtain ⟨a, _, rfl⟩ := List.mem_map.1 hx
  exact ⟨rfl, by simp [cellsRA, Value.oneCell']⟩
/-- slices.Clone at arcs. -/
theorem cloneA_any (E : Nat) (w : World) (l : List RArc) (va : Value) (h : ArcsAt E w va l) (hm : l.length ≤ 1114112) :
    Calls Tryd.prog 65 #[va] w fun e w' => ∃ v', e = .returned v' ∧ (∃ ad cap, v' = .slice ad l.length cap) ∧ ArcsAt w'.heap.size w' v' l ∧ (∀ g, v'.ownBlock = some g → w.heap.size ≤ g ∧ g < w'.heap.size) ∧ Below w.heap.size w w' := by
  by_cases h0 : l = []
  · subst h0
    obtain ⟨ad, cap, rfl⟩ := h.shape
    have hA : ∀ w' ad cap, ArcsAt w'.heap.size w' (.slice ad 0 cap) [] := fun w' ad cap => ⟨⟨ad, cap, rfl, fun h => absurd h (by simp)⟩, fun a ha => (by cases ha), (by simp)⟩
    clear h
    have HA : Hid (∀ w' ad cap, ArcsAt w'.heap.size w' (.slice ad 0 cap) []) := hA
    have HB : Hid (∀ o, Below w.heap.size w (w.alloc o)) := fun o => (Below.refl _ w).alloc (Nat.le_refl _) o
    clear hA
    have heq : ∀ W, (binOp .eql 37 (.slice ad 0 cap) (.slice none 0 0)).run Tryd.prog W = .ok (.bool ad.isNone) W := fun W => Lib.run_eql_slice_nil W _ _ ad 0 cap 0 0 rtyA.und
    cases ad with
    | none =>
      go_enter Tryd.func65, Tryd.ntmps65
      simp only [Option.isNone_none] at heq
      go_wp2
      go_ret
      exact ⟨_, rfl, ⟨_, _, rfl⟩, HA.out _ _ _, fun g hg => (by cases hg), Below.refl _ _⟩
    | some p =>
      go_enter Tryd.func65, Tryd.ntmps65
      simp only [Option.isNone_some] at heq
      go_wp2
      go_ret
      exact ⟨_, rfl, ⟨_, _, rfl⟩, HA.out _ _ _, fun g hg => (by cases hg; exact ⟨Nat.le_refl _, by simp⟩), HB.out _⟩
  · obtain ⟨z, hz, hzs⟩ := rtyA.inf
    obtain ⟨i, hi, hz0, hz1, hz2⟩ := info_parts hz
    have hsz : ∀ w, (Go.sizeOf 43).run Tryd.prog w = .ok 3 w := fun w => by simp [sizeOf, typeInfo, hi, hz1, Result.andThen]
    have hcl := arcs_cells l
    have hl3 : ∀ x ∈ l.map cellsRA, x.length = 3 := fun x hx => (hcl x hx).1
    have hpos := List.length_pos_iff.2 h0
    obtain ⟨ad, cap, rfl, hc⟩ := h.row.ex
    obtain ⟨g, off, rfl, hg, hx⟩ := hc (by rw [List.length_map]; exact hpos)
    have hcell : ∀ (j : Nat) u, (l.map cellsRA).flatten[j]? = some u → w.cell? ⟨g, off + j, none⟩ = some u := fun j u hj => by
      obtain ⟨i, c, x, rfl, h1, h2⟩ := flat_at (l.map cellsRA) hl3 j u hj
      have := hx i c x u h1 h2
      rwa [Nat.add_assoc] at this
    have hone : ∀ u ∈ (l.map cellsRA).flatten, u.oneCell' = true := fun u hu => by
      obtain ⟨x, hx, hux⟩ := List.mem_flatten.1 hu
      exact (hcl x hx).2 u hux
    have hlen : (l.map cellsRA).length = l.length := List.length_map _
    have hcall : Calls Tryd.prog 65 #[.slice (some ⟨g, off, none⟩) (l.map cellsRA).length cap] w fun e w' => ∃ v', e = .returned v' ∧ w'.ownsRow w.heap.size 43 3 v' (l.map cellsRA).length (l.map cellsRA).flatten ∧ v' ≠ .slice none 0 0 ∧ Below w.heap.size w w' :=
      AnyE.slices_Clone cloneAr i z 3 24 hi hz0 hz1 hz2 hzs (by decide) hsz g off (l.map cellsRA).length cap (l.map cellsRA).flatten w (flat_len3 _ hl3) (by unfold maxLen; omega) (by omega) hcell hone
    refine hcall.mono ?_
    rintro e w' ⟨v', rfl, ho, hne, hb⟩
    have hO : GOwn 43 3 w.heap.size w' v' (l.map cellsRA) := ⟨hcl, ho⟩
    obtain ⟨ad', cap', hv, _⟩ := hO.shape
    rw [hlen] at hv
    exact ⟨v', rfl, ⟨ad', cap', hv⟩, ⟨hO.reads, h.ok, h.len⟩, fun g hg => ⟨(hO.block hg).1, hO.lt hg⟩, hb⟩
theorem ArcsAt.upd {F : Nat → Prop} {E : Nat} {w w' : World} {v : Value} {l : List RArc} (h : ArcsAt E w v l) (hu : Upd F w w') (hE : E ≤ w.heap.size) (hF : ∀ g, v.ownBlock = some g → ¬ F g) : ArcsAt w'.heap.size w' v l := by
  obtain ⟨ad, cap, rfl, hc⟩ := h.row.ex
  refine ⟨⟨ad, cap, rfl, fun h0 => ?_⟩, h.ok, h.len⟩
  obtain ⟨g, off, rfl, hg, hx⟩ := hc h0
  have hl := hu.size
  exact ⟨g, off, rfl, by omega, fun i j x u hi hj => (World.cell?_of_block (a := ⟨g, off + i * 3 + j, none⟩) (hu.block g (by omega) (hF g rfl))).trans (hx i j x u hi hj)⟩
theorem set_trans {F : Nat → Prop} {w W : World} (h : Upd F w W) {b o : Nat} (x : Value) (hb : F b) : Upd F w (W.setCell ⟨b, o, none⟩ x) := by
  obtain ⟨h1, h2, h3, h4⟩ := set_rest W b o x
  exact ⟨h1.trans h.os, h2.trans h.tape, h3.trans h.output, by rw [h4]; exact h.size, fun k hk hF => (Below.heap_setCell W ⟨b, o, none⟩ x k (fun e => hF (e ▸ hb))).trans (h.block k hk hF)⟩
theorem cl_results {tmps : Array Value} {w : World} {qb : Nat} {a b c : Value} (h2 : tmps.getD 2 undef = .pointer (some ⟨qb, 0, none⟩)) (c0 : w.cell? ⟨qb, 0, none⟩ = some a) (c1 : w.cell? ⟨qb, 1, none⟩ = some b) (c2 : w.cell? ⟨qb, 2, none⟩ = some c) : (results Tryd.f32 tmps).run Tryd.prog w = .ok (.agg #[a, b, c]) w := by
  have h2' : tmps[2]?.getD undef = .pointer (some ⟨qb, 0, none⟩) := by simpa using h2
  simp [results, Tryd.results32, go_sem, h2', c0, c1, c2]
set_option maxHeartbeats 2000000 in
theorem cloned_any (E : Nat) (w : World) (s : RSt) (va : Value) (h : ArcsAt E w va s.arcs) (hE : E ≤ w.heap.size) (hm : s.arcs.length ≤ 1114112) :
    Calls Tryd.prog 32 #[.agg #[.bool s.final, .int .i64 s.out, va]] w fun e w' => ∃ v', e = .returned (.agg #[.bool s.final, .int .i64 s.out, v']) ∧ (∃ ad cap, v' = .slice ad s.arcs.length cap) ∧ ArcsAt w'.heap.size w' v' s.arcs ∧ (∀ g, v'.ownBlock = some g → w.heap.size ≤ g ∧ g < w'.heap.size) ∧ Below w.heap.size w w' := by
  obtain ⟨ad, cap, hva⟩ := h.shape
  obtain ⟨n, hn⟩ : ∃ n, s.arcs.length = n := ⟨_, rfl⟩
  rw [hn] at hva
  subst hva
  obtain ⟨W1, hW1⟩ : ∃ W1, W1 = (w.alloc (.cells #[.bool s.final, .int .i64 s.out, .slice ad n cap] 39)).alloc (.cells #[.bool false, .int .i64 0, .slice none 0 0] 39) := ⟨_, rfl⟩
  have hb1 : Below w.heap.size w W1 := by rw [hW1]; exact ((Below.refl _ w).alloc (Nat.le_refl _) _).alloc (by simp) _
  have hs1 : W1.heap.size = w.heap.size + 2 := by rw [hW1]; simp
  obtain ⟨sb, hsb⟩ : ∃ sb, sb = w.heap.size := ⟨_, rfl⟩
  obtain ⟨rb, hrb⟩ : ∃ rb, rb = w.heap.size + 1 := ⟨_, rfl⟩
  have hn1 : W1.heap[sb]? = some (.cells #[.bool s.final, .int .i64 s.out, .slice ad n cap] 39) := by
    rw [hW1, hsb, (MapKept.heap_alloc _ _).2 _ (by simp)]; exact alloc_newP _ _
  have hr1 : W1.heap[rb]? = some (.cells #[.bool false, .int .i64 0, .slice none 0 0] 39) := by
    have e : rb = (w.alloc (.cells #[.bool s.final, .int .i64 s.out, .slice ad n cap] 39)).heap.size := by rw [hrb]; simp
    rw [hW1, e]; exact alloc_newP _ _
  have HC : Hid (Calls Tryd.prog 65 #[.slice ad n cap] W1 fun e w' => ∃ v', e = .returned v' ∧ (∃ ad cap, v' = .slice ad s.arcs.length cap) ∧ ArcsAt w'.heap.size w' v' s.arcs ∧ (∀ g, v'.ownBlock = some g → W1.heap.size ≤ g ∧ g < w'.heap.size) ∧ Below W1.heap.size W1 w') := cloneA_any E W1 s.arcs _ (h.below (hb1.mono hE)) hm
  have c2 : W1.cell? ⟨sb, 2, none⟩ = some (.slice ad n cap) := by simp [World.cell?, hn1]
  have HF : Hid (∀ (w2 : World) (x : Value), Below W1.heap.size W1 w2 → w2.heap[sb]? = some (.cells #[.bool s.final, .int .i64 s.out, .slice ad n cap] 39) ∧ w2.heap[rb]? = some (.cells #[.bool false, .int .i64 0, .slice none 0 0] 39)) := fun w2 x hb => ⟨(hb.block sb (by omega)).trans hn1, (hb.block rb (by omega)).trans hr1⟩
  have HB1 : Hid (Below w.heap.size w W1) := hb1
  have HSZ : Hid (W1.heap.size = w.heap.size + 2 ∧ sb = w.heap.size ∧ rb = w.heap.size + 1) := ⟨hs1, hsb, hrb⟩
  have hsr : sb ≠ rb := by omega
  clear h hb1 hn1 hr1 hs1
  go_enter Tryd.func32, Tryd.ntmps32
  go_upto_region 1 with fail
  rw [← hrb, ← hsb, ← hW1]
  clear hsb hrb hW1
  go_wp2_with (go_at_call 65; refine HC.out.mono ?_; rintro e w2 ⟨v', rfl, ⟨ad2, cap2, rfl⟩, hA2, hg2, hb2⟩; obtain ⟨k1, k2⟩ := HF.out w2 (.slice none 0 0) hb2; have z1 : w2.cell? ⟨sb, 0, none⟩ = some (.bool s.final) := (by simp [World.cell?, k1]); have z2 : w2.cell? ⟨sb, 1, none⟩ = some (.int .i64 s.out) := (by simp [World.cell?, k1]); have z3 : w2.cell? ⟨sb, 2, none⟩ = some (.slice ad n cap) := (by simp [World.cell?, k1]); have y1 : w2.cell? ⟨rb, 0, none⟩ = some (.bool false) := (by simp [World.cell?, k2]); have y2 : w2.cell? ⟨rb, 1, none⟩ = some (.int .i64 0) := (by simp [World.cell?, k2]); have y3 : w2.cell? ⟨rb, 2, none⟩ = some (.slice none 0 0) := (by simp [World.cell?, k2]); have f1 : w2.frozen? ⟨sb, 2, none⟩ = false := (by simp [World.frozen?, k1]); have f2 : ∀ o, w2.frozen? ⟨rb, o, none⟩ = false := (fun o => by simp [World.frozen?, k2]))
  obtain ⟨W6, hW6⟩ : ∃ W6, W6 = (((w2.setCell ⟨sb, 2, none⟩ (.slice ad2 n cap2)).setCell ⟨rb, 0, none⟩ (.bool s.final)).setCell ⟨rb, 1, none⟩ (.int .i64 s.out)).setCell ⟨rb, 2, none⟩ (.slice ad2 n cap2) := ⟨_, rfl⟩
  have hu : Upd (fun j => j = sb ∨ j = rb) w2 W6 := by
    rw [hW6]
    exact set_trans (set_trans (set_trans (set_trans (Upd.refl _ _) _ (.inl rfl)) _ (.inr rfl)) _ (.inr rfl)) _ (.inr rfl)
  have hr6 : W6.heap[rb]? = some (.cells #[.bool s.final, .int .i64 s.out, .slice ad2 n cap2] 39) := by
    have e0 : (w2.setCell ⟨sb, 2, none⟩ (.slice ad2 n cap2)).heap[rb]? = some (.cells #[.bool false, .int .i64 0, .slice none 0 0] 39) := (Below.heap_setCell w2 ⟨sb, 2, none⟩ _ rb (fun e => hsr e.symm)).trans k2
    rw [hW6, set_at (set_at (set_at e0 _) _) _]
    rfl
  rw [← hW6]
  obtain ⟨hz1, hz2, hz3⟩ := HSZ.out
  refine bodyPost_ret (cl_results (a := .bool s.final) (b := .int .i64 s.out) (c := .slice ad2 n cap2) rfl (by simp [World.cell?, hr6]) (by simp [World.cell?, hr6]) (by simp [World.cell?, hr6])) rfl ?_
  refine ⟨_, rfl, ⟨_, _, by rw [hn]⟩, ?_, fun g hg => ?_, ?_⟩
  · rw [hn] at hA2 hg2
    exact hA2.upd hu (Nat.le_refl _) (fun g hg e => by have := (hg2 g hg).1; rcases e with e | e <;> omega)
  · rw [hn] at hg2
    have h1 := hg2 g hg
    have h2 := hu.size
    omega
  · have h1 : Below w.heap.size w w2 := HB1.out.trans (hb2.mono HB1.out.size)
    exact h1.trans (hu.below h1.size (fun j e => by rcases e with e | e <;> omega))
/-- The states' counts so far. -/
structure CtAt (E : Nat) (w wr : World) (vw : Value) (cs : List Nat) : Prop where
  own : GOwn 3 1 w.heap.size wr vw (cs.map cellsN)
  bel : Below w.heap.size w wr
theorem CtAt.below {E : Nat} {w wr w' : World} {vw : Value} {cs : List Nat} (h : CtAt E w wr vw cs) (hb : Below wr.heap.size wr w') : CtAt E w w' vw cs := ⟨h.own.below hb, h.bel.trans (hb.mono h.bel.size)⟩
def cnt (D : List (List En)) (s : St) (j : Nat) : Nat := (if s.final then 1 else 0) + ((s.arcs.take j).map fun a => (D[a.to]?.getD []).length).sum
theorem cnt_snoc {D : List (List En)} {s : St} {j : Nat} {a : Arc} {R : List En} (ha : s.arcs[j]? = some a) (hR : D[a.to]? = some R) : cnt D s (j + 1) = cnt D s j + R.length := by
  unfold cnt
  rw [List.take_add_one, ha, Option.toList_some, List.map_append, List.sum_append]
  simp [hR]
  omega
theorem cnt_le {D : List (List En)} {s : St} (j : Nat) : cnt D s j ≤ (exp D s).length := by
  rw [exp_len]
  unfold cnt
  have : ∀ (l : List Nat) (j : Nat), (l.take j).sum ≤ l.sum := fun l => by
    induction l with
    | nil => intro j; simp
    | cons x r ih =>
      intro j
      cases j with
      | zero => simp
      | succ j => simp only [List.take_succ_cons, List.sum_cons]; have := ih j; omega
  have h2 := this (s.arcs.map fun a => (D[a.to]?.getD []).length) j
  rw [← List.map_take] at h2
  omega
set_option maxHeartbeats 4000000 in
theorem counted_any (E : Nat) (w : World) (b : List St) (D : List (List En)) (hI : Inv D b) (hR : ∀ R ∈ D, R.length ≤ 4096) (vs : Value) (h : StsAt E w vs (b.map ofSt)) (hE : E ≤ w.heap.size) (hfew : b.length ≤ 1048576) :
    Calls Tryd.prog 33 #[vs] w fun e w' => ∃ vw, e = .returned vw ∧ CtAt E w w' vw (D.map List.length) := by
  obtain ⟨ad, cap, rfl⟩ := h.shape
  obtain ⟨nb, hnb⟩ : ∃ nb, b.length = nb := ⟨_, rfl⟩
  have HNB : Hid (b.length = nb) := hnb
  have hlm : (b.map ofSt).length = nb := by rw [List.length_map, hnb]
  have HR : Hid (StsAt E w (.slice ad nb cap) (b.map ofSt)) := by have := h; rw [hlm] at this; exact this
  have hl := h.len
  obtain ⟨cs, hcs⟩ : ∃ cs, D.map List.length = cs := ⟨_, rfl⟩
  have HCS : Hid (cs = D.map List.length) := hcs.symm
  rw [hlm] at hl ⊢
  rw [hcs]
  clear h hnb hlm hcs
  go_enter Tryd.func33, Tryd.ntmps33
  go_wp2
  go_loopg [3, 5, 6, 8, 11] nb (fun gm s3 _ _ _ s11 wr => ∃ (k : Nat) (wd : Option Addr) (nw wc : Nat), s11 = .int .i64 k ∧ s3 = .slice wd nw wc ∧ k ≤ nb ∧ nb - k ≤ gm ∧ Hid (CtAt E w wr (.slice wd nw wc) (cs.take k)))
  case atStart => exact ⟨0, none, 0, 0, rfl, rfl, Nat.zero_le _, by omega, ⟨GOwn.nil _ _ _ _, Below.refl _ _⟩⟩
  case round =>
    obtain ⟨k, wd, nw, wc, rfl, rfl, hk, hgm, HCT0⟩ := hrel
    by_cases hlt : k < nb
    · have hltz : (k : Int) < (nb : Int) := by omega
      obtain ⟨s, hs⟩ : ∃ s, b[k]? = some s := ⟨b[k]'(by have := HNB.out; omega), List.getElem?_eq_getElem _⟩
      have HBN : Hid (b[k]? = some s) := hs
      obtain ⟨g, off, va, hgd, hg, x0, x1, x2, hA⟩ := HR.out.at (k := k) (s := ofSt s) (by rw [List.getElem?_map, hs]; rfl)
      obtain ⟨vd, vc, hva⟩ := hA.shape
      obtain ⟨na, hna⟩ : ∃ na, s.arcs.length = na := ⟨_, rfl⟩
      have HNA : Hid (s.arcs.length = na) := hna
      have hna2 : (ofSt s).arcs.length = na := by show (s.arcs.map ofArc).length = na; rw [List.length_map, hna]
      rw [hna2] at hva
      subst hva
      subst hgd
      have HAA : Hid (ArcsAt E w (.slice vd na vc) (s.arcs.map ofArc)) := hA
      have hal := hA.len
      rw [hna2] at hal
      have hbl := HCT0.out.bel
      have u0 : wr.cell? ⟨g, off + k * 3, none⟩ = some (.bool s.final) := (hbl.cell (p := ⟨g, off + k * 3, none⟩) (Nat.lt_of_lt_of_le hg hE)).trans x0
      have u1 : wr.cell? ⟨g, off + k * 3 + 1, none⟩ = some (.int .i64 s.out) := (hbl.cell (p := ⟨g, off + k * 3 + 1, none⟩) (Nat.lt_of_lt_of_le hg hE)).trans x1
      have u2 : wr.cell? ⟨g, off + k * 3 + 2, none⟩ = some (.slice vd na vc) := (hbl.cell (p := ⟨g, off + k * 3 + 2, none⟩) (Nat.lt_of_lt_of_le hg hE)).trans x2
      obtain ⟨sb, hsb⟩ : ∃ sb, sb = wr.heap.size := ⟨_, rfl⟩
      obtain ⟨W1, hW1⟩ : ∃ W1, W1 = wr.alloc (.cells #[.bool s.final, .int .i64 s.out, .slice vd na vc] 39) := ⟨_, rfl⟩
      have hb1 : Below wr.heap.size wr W1 := by rw [hW1]; exact (Below.refl _ wr).alloc (Nat.le_refl _) _
      have hn1 : W1.heap[sb]? = some (.cells #[.bool s.final, .int .i64 s.out, .slice vd na vc] 39) := by rw [hW1, hsb]; exact alloc_newP _ _
      have HSB : Hid (∀ wz, Below W1.heap.size W1 wz → wz.cell? ⟨sb, 0, none⟩ = some (.bool s.final) ∧ wz.cell? ⟨sb, 1, none⟩ = some (.int .i64 s.out) ∧ wz.cell? ⟨sb, 2, none⟩ = some (.slice vd na vc)) := fun wz hz => by
        have h1 := (hz.block sb (Array.getElem?_eq_some_iff.1 hn1).1).trans hn1
        exact ⟨by simp [World.cell?, h1], by simp [World.cell?, h1], by simp [World.cell?, h1]⟩
      have HCT : Hid (CtAt E w W1 (.slice wd nw wc) (cs.take k)) := HCT0.out.below hb1
      have HBW : Hid (Below w.heap.size w W1) := HCT.out.bel
      obtain ⟨sc0, sc1, sc2⟩ := HSB.out W1 (Below.refl _ _)
      clear hb1 hn1 hs x0 x1 x2 hA hna hna2 hbl
      go_upto_region 5 with fail
      rw [← hsb, ← hW1]
      clear hsb hW1 u0 u1 u2
      cases hfin : s.final with
      | false =>
        rw [hfin] at sc0
        have HC0 : Hid (cnt D s 0 = 0) := by show _ = _; unfold cnt; rw [hfin]; rfl
        go_wp2
        go_loopg [6, 8, 20] na (fun gm s6 _ s20 wr => ∃ (j : Nat), s20 = .int .i64 j ∧ s6 = .int .i64 ((cnt D s j : Nat) : Int) ∧ j ≤ na ∧ na - j ≤ gm ∧ Hid (CtAt E w wr (.slice wd nw wc) (cs.take k)) ∧ Hid (Below W1.heap.size W1 wr))
        case atStart => exact ⟨0, by go_num, by first | (rw [HC0.out]; rfl) | (rw [HC0.out]; go_num), Nat.zero_le _, by omega, HCT, Below.refl _ _⟩
        case round =>
          obtain ⟨j, rfl, rfl, hj, hgj, HCZ, HBZ⟩ := hrel
          clear sc0 sc1 sc2
          obtain ⟨sc0, sc1, sc2⟩ := HSB.out wr HBZ.out
          have hc4 : cnt D s j ≤ 4096 := Nat.le_trans (cnt_le j) (hR _ (List.mem_of_getElem? (hI.row k s HBN.out).1))
          by_cases hjl : j < na
          · have hjz : (j : Int) < (na : Int) := by omega
            obtain ⟨a, ha⟩ : ∃ a, s.arcs[j]? = some a := ⟨s.arcs[j]'(by have := HNA.out; omega), List.getElem?_eq_getElem _⟩
            have hat := (hI.row k s HBN.out).2.1 a (List.mem_of_getElem? ha)
            obtain ⟨R1, hR1⟩ : ∃ R1, D[a.to]? = some R1 := ⟨D[a.to]'(by have := hI.len; have := HNB.out; omega), List.getElem?_eq_getElem _⟩
            have hR4 : R1.length ≤ 4096 := hR _ (List.mem_of_getElem? hR1)
            obtain ⟨ga, oa, hva, hga, x0, x1, x2⟩ := ((HAA.out.below (HBW.out.mono hE)).below (HBZ.out.mono (Nat.le_trans hE HBW.out.size))).at (k := j) (a := ofArc a) (by rw [List.getElem?_map, ha]; rfl)
            have d0 : wr.cell? ⟨ga, oa + j * 3, none⟩ = some (.int .i32 a.label) := x0
            have d1 : wr.cell? ⟨ga, oa + j * 3 + 1, none⟩ = some (.int .i64 a.out) := x1
            have d2 : wr.cell? ⟨ga, oa + j * 3 + 2, none⟩ = some (.int .i64 (a.to : Int)) := x2
            subst hva
            clear x0 x1 x2
            obtain ⟨ab, hab⟩ : ∃ ab, ab = wr.heap.size := ⟨_, rfl⟩
            obtain ⟨W6, hW6⟩ : ∃ W6, W6 = wr.alloc (.cells #[.int .i32 a.label, .int .i64 a.out, .int .i64 (a.to : Int)] 43) := ⟨_, rfl⟩
            have hb6 : Below wr.heap.size wr W6 := by rw [hW6]; exact (Below.refl _ wr).alloc (Nat.le_refl _) _
            have hn6 : W6.heap[ab]? = some (.cells #[.int .i32 a.label, .int .i64 a.out, .int .i64 (a.to : Int)] 43) := by rw [hW6, hab]; exact alloc_newP _ _
            have HC6 : Hid (CtAt E w W6 (.slice wd nw wc) (cs.take k)) := HCZ.out.below hb6
            have HB6 : Hid (Below W1.heap.size W1 W6) := HBZ.out.trans (hb6.mono HBZ.out.size)
            obtain ⟨gw, ow, hwd, hgw, cw⟩ := HC6.out.own.reads.num (k := a.to) (c := R1.length) (by rw [List.getElem?_take_of_lt hat, HCS.out, List.getElem?_map, hR1]; rfl)
            have hnw : nw = k := by
              obtain ⟨_, _, e, _⟩ := HC6.out.own.shape
              simp only [Value.slice.injEq, List.length_map, List.length_take] at e
              have h1 := hI.len
              have h2 := HNB.out
              have h3 : cs.length = D.length := by rw [HCS.out, List.length_map]
              omega
            have htz : (a.to : Int) < (nw : Int) := by omega
            have ka2 : W6.cell? ⟨ab, 2, none⟩ = some (.int .i64 (a.to : Int)) := by simp [World.cell?, hn6]
            have HCN : Hid (((cnt D s j : Nat) : Int) + ((R1.length : Nat) : Int) = ((cnt D s (j + 1) : Nat) : Int)) := by show _ = _; rw [cnt_snoc ha hR1]; omega
            obtain ⟨cj, hcj⟩ : ∃ cj, cnt D s j = cj := ⟨_, rfl⟩
            rw [hcj] at HCN hc4 ⊢
            subst hwd
            clear hb6 hn6 hgw hga hnw
            go_upto_region 11 with fail
            rw [← hab, ← hW6]
            clear hab hW6 d0 d1 d2 sc0 sc1 sc2
            go_wp2
            go_roundg (na - (j + 1))
            case measure => omega
            case rel => exact ⟨j + 1, by go_num, by rw [HCN.out], by omega, Nat.le_refl _, HC6, HB6⟩
          · have hjn : j = na := by omega
            subst hjn
            have hjz : ¬ (j : Int) < (j : Int) := by omega
            have HO : Hid (GOwn 3 1 w.heap.size wr (.slice wd nw wc) ((cs.take k).map cellsN)) := HCZ.out.own
            obtain ⟨cj, hcj⟩ : ∃ cj, cnt D s j = cj := ⟨_, rfl⟩
            have HCK : Hid (cs.take (k + 1) = cs.take k ++ [cj]) := by
              show _ = _
              have e1 : D[k]? = some (exp D s) := (hI.row k s HBN.out).1
              have e2 : cs[k]? = some cj := by
                rw [HCS.out, List.getElem?_map, e1, ← hcj]
                show some (exp D s).length = _
                rw [exp_len]
                unfold cnt
                rw [← HNA.out, List.take_length]
              rw [List.take_add_one, e2]
              rfl
            have HLK : Hid (((cs.take k).map cellsN).length < 1099511627776) := by
              show _ < _
              rw [List.length_map, List.length_take]
              have := HNB.out
              omega
            have HBZ2 : Hid (Below w.heap.size w wr) := HCZ.out.bel
            rw [hcj] at hc4 ⊢
            clear hcj
            go_wp2_with (at_builtin; refine append_g rtyN (by rfl) _ _ [.int .i64 (cj : Int)] _ rfl w.heap.size _ _ _ _ rfl HO.out rfl rfl ⟨rfl, by simp [Value.oneCell']⟩ HLK.out HBZ2.out.size ?_; intro v7 w7 ho7 hb7 hg7; obtain ⟨a7, n7, c7, hv7⟩ : ∃ a n c, v7 = Value.slice a n c := (by obtain ⟨a, c, e, _⟩ := ho7.shape; exact ⟨_, _, _, e⟩); subst hv7)
            go_roundg (nb - (k + 1))
            case measure => omega
            case rel => exact ⟨k + 1, _, _, _, by go_num, rfl, by omega, Nat.le_refl _, ⟨by rw [HCK.out, List.map_append]; exact ho7, HBZ2.out.trans hb7⟩⟩
      | true =>
        rw [hfin] at sc0
        have HC0 : Hid (cnt D s 0 = 1) := by show _ = _; unfold cnt; rw [hfin]; rfl
        go_wp2
        go_loopg [6, 8, 20] na (fun gm s6 _ s20 wr => ∃ (j : Nat), s20 = .int .i64 j ∧ s6 = .int .i64 ((cnt D s j : Nat) : Int) ∧ j ≤ na ∧ na - j ≤ gm ∧ Hid (CtAt E w wr (.slice wd nw wc) (cs.take k)) ∧ Hid (Below W1.heap.size W1 wr))
        case atStart => exact ⟨0, by go_num, by first | (rw [HC0.out]; rfl) | (rw [HC0.out]; go_num), Nat.zero_le _, by omega, HCT, Below.refl _ _⟩
        case round =>
          obtain ⟨j, rfl, rfl, hj, hgj, HCZ, HBZ⟩ := hrel
          clear sc0 sc1 sc2
          obtain ⟨sc0, sc1, sc2⟩ := HSB.out wr HBZ.out
          have hc4 : cnt D s j ≤ 4096 := Nat.le_trans (cnt_le j) (hR _ (List.mem_of_getElem? (hI.row k s HBN.out).1))
          by_cases hjl : j < na
          · have hjz : (j : Int) < (na : Int) := by omega
            obtain ⟨a, ha⟩ : ∃ a, s.arcs[j]? = some a := ⟨s.arcs[j]'(by have := HNA.out; omega), List.getElem?_eq_getElem _⟩
            have hat := (hI.row k s HBN.out).2.1 a (List.mem_of_getElem? ha)
            obtain ⟨R1, hR1⟩ : ∃ R1, D[a.to]? = some R1 := ⟨D[a.to]'(by have := hI.len; have := HNB.out; omega), List.getElem?_eq_getElem _⟩
            have hR4 : R1.length ≤ 4096 := hR _ (List.mem_of_getElem? hR1)
            obtain ⟨ga, oa, hva, hga, x0, x1, x2⟩ := ((HAA.out.below (HBW.out.mono hE)).below (HBZ.out.mono (Nat.le_trans hE HBW.out.size))).at (k := j) (a := ofArc a) (by rw [List.getElem?_map, ha]; rfl)
            have d0 : wr.cell? ⟨ga, oa + j * 3, none⟩ = some (.int .i32 a.label) := x0
            have d1 : wr.cell? ⟨ga, oa + j * 3 + 1, none⟩ = some (.int .i64 a.out) := x1
            have d2 : wr.cell? ⟨ga, oa + j * 3 + 2, none⟩ = some (.int .i64 (a.to : Int)) := x2
            subst hva
            clear x0 x1 x2
            obtain ⟨ab, hab⟩ : ∃ ab, ab = wr.heap.size := ⟨_, rfl⟩
            obtain ⟨W6, hW6⟩ : ∃ W6, W6 = wr.alloc (.cells #[.int .i32 a.label, .int .i64 a.out, .int .i64 (a.to : Int)] 43) := ⟨_, rfl⟩
            have hb6 : Below wr.heap.size wr W6 := by rw [hW6]; exact (Below.refl _ wr).alloc (Nat.le_refl _) _
            have hn6 : W6.heap[ab]? = some (.cells #[.int .i32 a.label, .int .i64 a.out, .int .i64 (a.to : Int)] 43) := by rw [hW6, hab]; exact alloc_newP _ _
            have HC6 : Hid (CtAt E w W6 (.slice wd nw wc) (cs.take k)) := HCZ.out.below hb6
            have HB6 : Hid (Below W1.heap.size W1 W6) := HBZ.out.trans (hb6.mono HBZ.out.size)
            obtain ⟨gw, ow, hwd, hgw, cw⟩ := HC6.out.own.reads.num (k := a.to) (c := R1.length) (by rw [List.getElem?_take_of_lt hat, HCS.out, List.getElem?_map, hR1]; rfl)
            have hnw : nw = k := by
              obtain ⟨_, _, e, _⟩ := HC6.out.own.shape
              simp only [Value.slice.injEq, List.length_map, List.length_take] at e
              have h1 := hI.len
              have h2 := HNB.out
              have h3 : cs.length = D.length := by rw [HCS.out, List.length_map]
              omega
            have htz : (a.to : Int) < (nw : Int) := by omega
            have ka2 : W6.cell? ⟨ab, 2, none⟩ = some (.int .i64 (a.to : Int)) := by simp [World.cell?, hn6]
            have HCN : Hid (((cnt D s j : Nat) : Int) + ((R1.length : Nat) : Int) = ((cnt D s (j + 1) : Nat) : Int)) := by show _ = _; rw [cnt_snoc ha hR1]; omega
            obtain ⟨cj, hcj⟩ : ∃ cj, cnt D s j = cj := ⟨_, rfl⟩
            rw [hcj] at HCN hc4 ⊢
            subst hwd
            clear hb6 hn6 hgw hga hnw
            go_upto_region 11 with fail
            rw [← hab, ← hW6]
            clear hab hW6 d0 d1 d2 sc0 sc1 sc2
            go_wp2
            go_roundg (na - (j + 1))
            case measure => omega
            case rel => exact ⟨j + 1, by go_num, by rw [HCN.out], by omega, Nat.le_refl _, HC6, HB6⟩
          · have hjn : j = na := by omega
            subst hjn
            have hjz : ¬ (j : Int) < (j : Int) := by omega
            have HO : Hid (GOwn 3 1 w.heap.size wr (.slice wd nw wc) ((cs.take k).map cellsN)) := HCZ.out.own
            obtain ⟨cj, hcj⟩ : ∃ cj, cnt D s j = cj := ⟨_, rfl⟩
            have HCK : Hid (cs.take (k + 1) = cs.take k ++ [cj]) := by
              show _ = _
              have e1 : D[k]? = some (exp D s) := (hI.row k s HBN.out).1
              have e2 : cs[k]? = some cj := by
                rw [HCS.out, List.getElem?_map, e1, ← hcj]
                show some (exp D s).length = _
                rw [exp_len]
                unfold cnt
                rw [← HNA.out, List.take_length]
              rw [List.take_add_one, e2]
              rfl
            have HLK : Hid (((cs.take k).map cellsN).length < 1099511627776) := by
              show _ < _
              rw [List.length_map, List.length_take]
              have := HNB.out
              omega
            have HBZ2 : Hid (Below w.heap.size w wr) := HCZ.out.bel
            rw [hcj] at hc4 ⊢
            clear hcj
            go_wp2_with (at_builtin; refine append_g rtyN (by rfl) _ _ [.int .i64 (cj : Int)] _ rfl w.heap.size _ _ _ _ rfl HO.out rfl rfl ⟨rfl, by simp [Value.oneCell']⟩ HLK.out HBZ2.out.size ?_; intro v7 w7 ho7 hb7 hg7; obtain ⟨a7, n7, c7, hv7⟩ : ∃ a n c, v7 = Value.slice a n c := (by obtain ⟨a, c, e, _⟩ := ho7.shape; exact ⟨_, _, _, e⟩); subst hv7)
            go_roundg (nb - (k + 1))
            case measure => omega
            case rel => exact ⟨k + 1, _, _, _, by go_num, rfl, by omega, Nat.le_refl _, ⟨by rw [HCK.out, List.map_append]; exact ho7, HBZ2.out.trans hb7⟩⟩
    · have hltz : ¬ (k : Int) < (nb : Int) := by omega
      go_wp2
      go_ret
      have e : cs.take k = cs := List.take_of_length_le (by rw [HCS.out, List.length_map]; have := hI.len; have := HNB.out; omega)
      exact ⟨_, rfl, by rw [← e]; exact HCT0.out⟩
end Go.Proofs.YtjhjejjnkpbphaaDoor

/- New: a walk on a machine's copy. -/
namespace Go.Proofs.YtjhjejjnkpbphaaDoor
open Go.RowKit Nums Fm Pk
set_option maxRecDepth 100000

/-- States that the call has made, so far. -/
structure NwAt (w wr : World) (ob : Nat) (base : Int) (vs : Value) (m : List RSt) : Prop where
  bel : Below w.heap.size w wr
  lo : w.heap.size ≤ ob
  blk : wr.heap[ob]? = some (.cells #[.int .i64 base, vs] 24)
  ap : vs.ownBlock ≠ some ob
  ex : ∃ xss, GOwn 39 3 w.heap.size wr vs xss ∧ xss.length = m.length ∧ ∀ (i : Nat) (s : RSt), m[i]? = some s → ∃ va, xss[i]? = some [.bool s.final, .int .i64 s.out, va] ∧ ArcsAt wr.heap.size wr va s.arcs ∧ ∀ g, va.ownBlock = some g → w.heap.size ≤ g ∧ g ≠ ob ∧ vs.ownBlock ≠ some g ∧ g < wr.heap.size
theorem ArcsAt.grow {E : Nat} {w w' : World} {v : Value} {l : List RArc} (h : ArcsAt E w v l) (hE : E ≤ w.heap.size) (hb : Below w.heap.size w w') : ArcsAt w'.heap.size w' v l := h.upd (F := fun _ => False) (Upd.of_below hb) hE (fun _ _ => id)
theorem NwAt.below {w wr w' : World} {ob : Nat} {base : Int} {vs : Value} {m : List RSt} (h : NwAt w wr ob base vs m) (hb : Below wr.heap.size wr w') : NwAt w w' ob base vs m := by
  obtain ⟨xss, h1, h2, h3⟩ := h.ex
  refine ⟨h.bel.trans (hb.mono h.bel.size), h.lo, (hb.block ob (Array.getElem?_eq_some_iff.1 h.blk).1).trans h.blk, h.ap, xss, h1.below hb, h2, fun i s hi => ?_⟩
  obtain ⟨va, e1, e2, e3⟩ := h3 i s hi
  exact ⟨va, e1, e2.grow (Nat.le_refl _) hb, fun g hg => by obtain ⟨k1, k2, k3, k4⟩ := e3 g hg; exact ⟨k1, k2, k3, Nat.lt_of_lt_of_le k4 hb.size⟩⟩
theorem NwAt.facts {w wr : World} {ob : Nat} {base : Int} {vs : Value} {m : List RSt} (h : NwAt w wr ob base vs m) : wr.cell? ⟨ob, 0, none⟩ = some (.int .i64 base) ∧ wr.cell? ⟨ob, 1, none⟩ = some vs ∧ ∀ o, wr.frozen? ⟨ob, o, none⟩ = false := ⟨by simp [World.cell?, h.blk], by simp [World.cell?, h.blk], fun o => by simp [World.frozen?, h.blk]⟩
/-- One state more. -/
theorem NwAt.more {w V3 V4 W' : World} {ob : Nat} {base : Int} {vs v' va : Value} {m : List RSt} {s : RSt} {xss : List (List Value)} (h : NwAt w V3 ob base vs m) (hX : GOwn 39 3 w.heap.size V3 vs xss) (hxl : xss.length = m.length) (hxe : ∀ (i : Nat) (s : RSt), m[i]? = some s → ∃ va, xss[i]? = some [.bool s.final, .int .i64 s.out, va] ∧ ArcsAt V3.heap.size V3 va s.arcs ∧ ∀ g, va.ownBlock = some g → w.heap.size ≤ g ∧ g ≠ ob ∧ vs.ownBlock ≠ some g ∧ g < V3.heap.size)
    (hva : ArcsAt V3.heap.size V3 va s.arcs) (hvn : ∀ g, va.ownBlock = some g → w.heap.size ≤ g ∧ g ≠ ob ∧ vs.ownBlock ≠ some g ∧ g < V3.heap.size) (hb4 : Below V3.heap.size V3 V4) (ho : GOwn 39 3 w.heap.size W' v' (xss ++ [[.bool s.final, .int .i64 s.out, va]])) (hg : V4.grownBy W' vs.ownBlock) (hob : v'.ownBlock = vs.ownBlock ∨ ∃ g, v'.ownBlock = some g ∧ V4.heap.size ≤ g) :
    NwAt w (W'.setCell ⟨ob, 1, none⟩ v') ob base v' (m ++ [s]) ∧ W'.cell? ⟨ob, 1, none⟩ = some vs ∧ W'.frozen? ⟨ob, 1, none⟩ = false := by
  have hol : ob < V3.heap.size := (Array.getElem?_eq_some_iff.1 h.blk).1
  have hu1 : Upd (fun j => vs.ownBlock = some j) V3 W' := (Upd.of_below hb4).trans (G := fun j => vs.ownBlock = some j) ⟨hg.os, hg.tape, hg.output, hg.size, fun j hj hn => hg.block j hj (fun e => hn e.symm)⟩ (fun _ _ g => g)
  have hblk : W'.heap[ob]? = some (.cells #[.int .i64 base, vs] 24) := (hu1.block ob hol h.ap).trans h.blk
  obtain ⟨s1, s2, s3, s4⟩ := set_rest W' ob 1 v'
  have hu2 : Upd (fun j => j = ob) W' (W'.setCell ⟨ob, 1, none⟩ v') := ⟨s1, s2, s3, by omega, fun k _ hk => Below.heap_setCell W' ⟨ob, 1, none⟩ v' k hk⟩
  have hu : Upd (fun j => vs.ownBlock = some j ∨ j = ob) V3 (W'.setCell ⟨ob, 1, none⟩ v') := (hu1.mono fun j e => .inl e).trans (hu2.mono fun j e => .inr e) (fun _ _ g => g)
  have hap : v'.ownBlock ≠ some ob := fun e => by
    rcases hob with e2 | ⟨g, e2, h2⟩
    · exact h.ap (e2 ▸ e)
    · rw [e2] at e; cases e; have := hb4.size; omega
  have hfar : ∀ g, g < V3.heap.size → vs.ownBlock ≠ some g → v'.ownBlock ≠ some g := fun g hgl hn e => by
    rcases hob with e2 | ⟨g2, e2, h2⟩
    · exact hn (e2 ▸ e)
    · rw [e2] at e; cases e; have := hb4.size; omega
  refine ⟨⟨h.bel.trans (hu.below h.bel.size fun j e => ?_), h.lo, by rw [set_at hblk]; rfl, hap, xss ++ [[.bool s.final, .int .i64 s.out, va]], ho.same fun g hg' => hu2.block g (ho.lt hg') (fun e => hap (e ▸ hg')), by simp [hxl], fun i t hi => ?_⟩, by simp [World.cell?, hblk], by simp [World.frozen?, hblk]⟩
  · rcases e with e | e
    · exact (hX.block e).1
    · have := h.lo; omega
  · by_cases hi2 : i < m.length
    · rw [List.getElem?_append_left hi2] at hi
      obtain ⟨vb, e1, e2, e3⟩ := hxe i t hi
      refine ⟨vb, by rw [List.getElem?_append_left (by omega)]; exact e1, e2.upd hu (Nat.le_refl _) (fun g hg' e => ?_), fun g hg' => ?_⟩
      · rcases e with e | e
        · exact (e3 g hg').2.2.1 e
        · exact (e3 g hg').2.1 e
      · exact ⟨(e3 g hg').1, (e3 g hg').2.1, hfar g (e3 g hg').2.2.2 (e3 g hg').2.2.1, Nat.lt_of_lt_of_le (e3 g hg').2.2.2 hu.size⟩
    · have hi3 : i = m.length := by
        have := (List.getElem?_eq_some_iff.1 hi).1
        simp at this
        omega
      subst hi3
      rw [List.getElem?_append_right (Nat.le_refl _)] at hi
      simp at hi
      subst hi
      refine ⟨va, by rw [List.getElem?_append_right (by omega), hxl]; simp, hva.upd hu (Nat.le_refl _) (fun g hg' e => ?_), fun g hg' => ?_⟩
      · rcases e with e | e
        · exact (hvn g hg').2.2.1 e
        · exact (hvn g hg').2.1 e
      · exact ⟨(hvn g hg').1, (hvn g hg').2.1, hfar g (hvn g hg').2.2.2 (hvn g hg').2.2.1, Nat.lt_of_lt_of_le (hvn g hg').2.2.2 hu.size⟩
/-- What region 9 looks at. -/
structure S9n (ob : Nat) (base : Int) (vs : Value) (W : World) : Prop where
  c0 : W.cell? ⟨ob, 0, none⟩ = some (.int .i64 base)
  c1 : W.cell? ⟨ob, 1, none⟩ = some vs
theorem S9n.facts {ob : Nat} {base : Int} {vs : Value} {W : World} (h : S9n ob base vs W) : W.cell? ⟨ob, 0, none⟩ = some (.int .i64 base) ∧ W.cell? ⟨ob, 1, none⟩ = some vs := ⟨h.1, h.2⟩
theorem NwAt.sts {w wr : World} {ob : Nat} {base : Int} {vs : Value} {m : List RSt} (h : NwAt w wr ob base vs m) (hok : ∀ s ∈ m, Fits64 s.out) (hl : m.length ≤ 9223372036854775807) : StsAt wr.heap.size wr vs m := by
  obtain ⟨xss, h1, h2, h3⟩ := h.ex
  refine ⟨⟨xss, h1.reads, h2, fun i s hi => ?_⟩, hok, hl⟩
  obtain ⟨va, e1, e2, _⟩ := h3 i s hi
  exact ⟨va, e1, e2⟩
set_option maxHeartbeats 4000000 in
theorem New_no (E : Nat) (w : World) (base : Int) (m : List RSt) (vs : Value) (h : StsAt E w vs m) (hE : E ≤ w.heap.size) (hT : Tabs w) (hm : m.length ≤ 1048576) (hr : rightB base m = false) :
    Calls Tryd.prog 12 #[.agg #[.int .i64 base, vs]] w fun e w' => e = .returned (.tuple #[.pointer none, .bool false]) ∧ Below w.heap.size w w' := by
  obtain ⟨ad, cap, rfl⟩ := h.shape
  obtain ⟨W1, hW1⟩ : ∃ W1, W1 = w.alloc (.cells #[.int .i64 base, .slice ad m.length cap] 24) := ⟨_, rfl⟩
  have hb1 : Below w.heap.size w W1 := by rw [hW1]; exact (Below.refl _ w).alloc (Nat.le_refl _) _
  have HRA : Hid (Calls Tryd.prog 20 #[.agg #[.int .i64 base, .slice ad m.length cap]] W1 fun e w' => e = .returned (.bool false) ∧ Below W1.heap.size W1 w') := by
    have := Right_any E W1 base m _ (h.below (hb1.mono hE)) (Nat.le_trans hE hb1.size) (hT.below hb1) hm
    rw [hr] at this
    exact this
  have HB1 : Hid (Below w.heap.size w W1) := hb1
  clear h hT hb1
  go_enter Tryd.func12, Tryd.ntmps12
  go_upto_region 1 with fail
  rw [← hW1]
  have c0 : W1.cell? ⟨w.heap.size, 0, none⟩ = some (.int .i64 base) := by rw [hW1]; simp
  have c1 : W1.cell? ⟨w.heap.size, 1, none⟩ = some (.slice ad m.length cap) := by rw [hW1]; simp
  clear hW1
  go_wp2_with (go_at_call 20; refine HRA.out.mono ?_; rintro e w2 ⟨rfl, hb2⟩)
  go_ret2
  exact ⟨rfl, HB1.out.trans (hb2.mono HB1.out.size)⟩
end Go.Proofs.YtjhjejjnkpbphaaDoor
