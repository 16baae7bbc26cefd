/- An iterator and its consumer: which blocks are whose; ranges over an iterator that writes cells of its own. -/
import Derived.Test.YtllmdfkiogmofaaGreatDoorJ4
import Derived.Test.YtllmdfkiogmofaaGreatDoorJ3
import Derived.RangeFuncNested
namespace Go.Proofs.YtllmdfkiogmofaaGreatDoor
open Go.RowKit Nums Fm
set_option maxRecDepth 100000

def pairV (x : Pr) : Value := .agg #[.string x.1, .int .i64 x.2]
/-- The consumer's blocks may grow by new ones. -/
def Ext (A A' : Nat → Prop) (w : World) : Prop := (∀ k, A k → A' k) ∧ ∀ k, A' k → A k ∨ w.heap.size ≤ k
theorem Ext.refl (A : Nat → Prop) (w : World) : Ext A A w := ⟨fun _ h => h, fun _ h => .inl h⟩
theorem Ext.trans {A A' A'' : Nat → Prop} {w w' : World} (h : Ext A A' w) (h' : Ext A' A'' w') (hs : w.heap.size ≤ w'.heap.size) : Ext A A'' w :=
  ⟨fun k hk => h'.1 k (h.1 k hk), fun k hk => (h'.2 k hk).elim (h.2 k) (fun g => .inr (Nat.le_trans hs g))⟩
abbrev CI := (Nat → Prop) → List Pr → World → Prop
/-- The consumer's word minds its own blocks alone, and those below B. -/
def Minds (B : Nat) (I : CI) : Prop := ∀ A pre W W', I A pre W → Upd (fun k => ¬ A k ∧ B ≤ k) W W' → I A pre W'
/-- The blocks lie. -/
def Lies (A : Nat → Prop) (W : World) : Prop := ∀ k, A k → k < W.heap.size
/-- The consumer is called. -/
def YC (yv : Value) (x : Pr) (W : World) (R : Ending → World → Prop) : Prop :=
  (∃ c0 c1, yv = .func (.func 37) #[] #[c0, c1] ∧ Calls Tryz.prog 37 #[pairV x, c0, c1] W R) ∨
  (∃ l, yv = .func (.yield l) #[] #[] ∧ ∀ m, YieldAt Fence.wide m Tryz.prog l #[pairV x] W R)
theorem YC.mono {yv : Value} {x : Pr} {W : World} {R R' : Ending → World → Prop} (h : YC yv x W R) (hr : ∀ e w, R e w → R' e w) : YC yv x W R' := by
  rcases h with ⟨c0, c1, h1, h3⟩ | ⟨l, h1, h2⟩
  · exact .inl ⟨c0, c1, h1, h3.mono hr⟩
  · refine .inr ⟨l, h1, fun m => ?_⟩
    obtain ⟨fn, tmps, asg, bd, hy, hR⟩ := h2 m
    exact ⟨fn, tmps, asg, bd, hy, hR.mono hr⟩
def YPost (I X : CI) (A : Nat → Prop) (pre : List Pr) (x : Pr) (W : World) (e : Ending) (W' : World) : Prop :=
  (e = .returned (.bool true) ∧ ∃ A', Ext A A' W ∧ Lies A' W' ∧ Upd A W W' ∧ I A' (pre ++ [x]) W') ∨ (e = .returned (.bool false) ∧ ∃ A', Ext A A' W ∧ Lies A' W' ∧ Upd A W W' ∧ X A' (pre ++ [x]) W')
def Yields (yv : Value) (I X : CI) : Prop := ∀ A pre x W, I A pre W → Lies A W → YC yv x W (YPost I X A pre x W)
/-- What an iterator says: L, one by one, or a part of it. -/
def SeqIs (S : (Nat → Prop) → World → Prop) (gf : Nat) (lb : Array Value) (L : List Pr) : Prop :=
  ∀ (yv : Value) (I X : CI) A W, (∃ fn cb, yv = .func fn #[] cb) → S A W → Minds W.heap.size I → Minds W.heap.size X → Yields yv I X → I A [] W → Lies A W → Calls Tryz.prog gf (#[yv] ++ lb) W fun e W' => (∃ v, e = .returned v) ∧
    ((∃ A', Ext A A' W ∧ Lies A' W' ∧ Upd A W W' ∧ I A' L W') ∨ ∃ q A', q <+: L ∧ Ext A A' W ∧ Lies A' W' ∧ Upd A W W' ∧ X A' q W')
theorem Upd.put {W : World} (l : Nat) (o : Obj) : Upd (fun k => k = l) W (W.putObj l o) :=
  ⟨rfl, rfl, rfl, by simp, fun k _ hk => World.putObj_heap_other hk⟩
/-- What the body of a round must come to. -/
def roundQ (I : CI) (X : Code → CI) (A : Nat → Prop) (pre : List Pr) (x : Pr) (W : World) : Exit → Act → World → Prop
  | .normal, _, W' => ∃ A', Ext A A' W ∧ Lies A' W' ∧ Upd A W W' ∧ I A' (pre ++ [x]) W'
  | .ret, _, W' => ∃ A', Ext A A' W ∧ Lies A' W' ∧ Upd A W W' ∧ X .ret A' (pre ++ [x]) W'
  | .exit i, _, W' => ∃ A', Ext A A' W ∧ Lies A' W' ∧ Upd A W W' ∧ X (.exit i) A' (pre ++ [x]) W'
  | .goto t, _, W' => ∃ A', Ext A A' W ∧ Lies A' W' ∧ Upd A W W' ∧ X (.goto t) A' (pre ++ [x]) W'
  | _, _, _ => False
set_option maxHeartbeats 1000000 in
theorem wp_rangeC {g : Operand} {ps : Array Tmp} {assign body : Code} {Q : Exit → Act → World → Prop} {a : Act} {w : World} {gf : Nat} {lb : Array Value} {S : (Nat → Prop) → World → Prop} {L : List Pr}
    (hg : a.eval g = .func (.func gf) #[] lb) (eg : ∀ args w, (callFunc gf args).run Tryz.prog w = .ok (.enter gf args) w) (hseq : SeqIs S gf lb L) (hps : ps.size = 1)
    (I : CI) (X : Code → CI) (A : Nat → Prop) (hA : Lies A w) (hS : ∀ W, Below w.heap.size w W → S (fun k => A k ∨ k = w.heap.size + 1 ∨ k = w.heap.size) W) (hI : Minds w.heap.size I)
    (hX : ∀ c, Minds w.heap.size (X c)) (h0 : I A [] w)
    (hround : ∀ n l A pre x W, I A pre W → Lies A W → ¬ A (w.heap.size + 1) → w.heap.size + 1 < W.heap.size → assign.wpIn (Fence.wide.inRound l) n Tryz.prog (Exit.then (fun a1 W1 => Upd (fun _ => False) W W1 ∧ ∀ W2, Upd (fun k => k = w.heap.size + 1) W1 W2 → body.wpIn (Fence.wide.inRound l) n Tryz.prog (roundQ I X A pre x W2) a1 W2) (fun _ _ _ => False)) { tmps := (ps.zip #[pairV x]).foldl (fun t (p, v) => t.setIfInBounds p v) a.tmps, defers := [] } W)
    (hdone : ∀ A' W, Lies A' W → I A' L W → W.heap[w.heap.size]? = some (.deferred (some [])) → Q .normal { a with defers := { target := .collected w.heap.size, args := #[] } :: a.defers } W)
    (hstop : ∀ c A' q W, q <+: L → Lies A' W → X c A' q W → W.heap[w.heap.size]? = some (.deferred (some [])) → c.wp Tryz.prog Q { a with defers := { target := .collected w.heap.size, args := #[] } :: a.defers } W) :
    (Code.rangeFunc g ps assign body).wp Tryz.prog Q a w := by
  refine (wpIn_wide (n := 0)).1 (wpIn_rangeFunc ?_)
  intro fn hfn
  rw [Fence.wide_round]
  obtain ⟨rec, hrec⟩ : ∃ rec : LoopState → Option Code → Loop, rec = fun st pe => { state := st, pending := pe, fn, tmps := a.tmps, params := ps, assign, body, defers := w.heap.size } := ⟨_, rfl⟩
  obtain ⟨W1, hW1⟩ : ∃ W1, (w.alloc (.deferred (some []))).alloc (.loop (rec .ready none)) = W1 := ⟨_, rfl⟩
  have hL1 : W1.heap[w.heap.size + 1]? = some (.loop (rec .ready none)) := by
    rw [← hW1]; have := World.alloc_heap_new (w.alloc (.deferred (some []))) (.loop (rec .ready none)); rwa [World.size_alloc] at this
  have hK1 : W1.heap[w.heap.size]? = some (.deferred (some [])) := by
    rw [← hW1]; exact (Below.heap_alloc _ _ _ (by simp)).trans (World.alloc_heap_new w _)
  have hb1 : Below w.heap.size w W1 := by rw [← hW1]; exact ((Below.refl _ w).alloc (Nat.le_refl _) _).alloc (by simp) _
  have hs1 : w.heap.size + 1 < W1.heap.size := (Array.getElem?_eq_some_iff.1 hL1).1
  let IA : CI := fun A2 pre W => ∃ A, (∀ k, A2 k ↔ A k ∨ k = w.heap.size + 1 ∨ k = w.heap.size) ∧ ¬ A (w.heap.size + 1) ∧ ¬ A w.heap.size ∧ Lies A W ∧ W.heap[w.heap.size + 1]? = some (.loop (rec .ready none)) ∧ W.heap[w.heap.size]? = some (.deferred (some [])) ∧ I A pre W
  let IX : CI := fun A2 pre W => ∃ A c, (∀ k, A2 k ↔ A k ∨ k = w.heap.size + 1 ∨ k = w.heap.size) ∧ ¬ A (w.heap.size + 1) ∧ ¬ A w.heap.size ∧ Lies A W ∧ W.heap[w.heap.size + 1]? = some (.loop (rec .done (some c))) ∧ W.heap[w.heap.size]? = some (.deferred (some [])) ∧ X c A pre W
  refine ⟨w.heap.size + 1, [{ target := .collected w.heap.size, args := #[] }], W1, { target := .fn (.func gf) lb, args := #[.func (.yield (w.heap.size + 1)) #[] #[]] }, W1, gf,
    #[.func (.yield (w.heap.size + 1)) #[] #[]] ++ lb, W1, ?_, ?_, fun _ _ => trivial, ?_, fun h => by simp [Fence.wide] at h, ?_⟩
  · rw [← hW1, hrec]; exact run_enterLoop_outer _ _ _ _ _
  · simp only [resolve, hg]
    simp [go_sem]
  · simp [invoke, go_sem, eg]
  · refine callsIn_wide.2 ((hseq (.func (.yield (w.heap.size + 1)) #[] #[]) IA IX (fun k => A k ∨ k = w.heap.size + 1 ∨ k = w.heap.size) W1 ⟨_, _, rfl⟩ (hS W1 hb1) ?_ ?_ ?_ ?_ ?_).mono ?_)
    · rintro A2 pre W W' ⟨B, hiff, n1, n2, hl, hr, hd, hi⟩ hu
      refine ⟨B, hiff, n1, n2, fun k hk => Nat.lt_of_lt_of_le (hl k hk) hu.size, ?_, ?_, hI _ _ _ _ hi (hu.mono fun k ⟨h1, h2⟩ => ⟨fun h => h1 ((hiff k).2 (.inl h)), by omega⟩)⟩
      · exact (hu.block _ (Array.getElem?_eq_some_iff.1 hr).1 (fun h => h.1 ((hiff _).2 (.inr (.inl rfl))))).trans hr
      · exact (hu.block _ (Array.getElem?_eq_some_iff.1 hd).1 (fun h => h.1 ((hiff _).2 (.inr (.inr rfl))))).trans hd
    · rintro A2 pre W W' ⟨B, c, hiff, n1, n2, hl, hr, hd, hi⟩ hu
      refine ⟨B, c, hiff, n1, n2, fun k hk => Nat.lt_of_lt_of_le (hl k hk) hu.size, ?_, ?_, hX c _ _ _ _ hi (hu.mono fun k ⟨h1, h2⟩ => ⟨fun h => h1 ((hiff k).2 (.inl h)), by omega⟩)⟩
      · exact (hu.block _ (Array.getElem?_eq_some_iff.1 hr).1 (fun h => h.1 ((hiff _).2 (.inr (.inl rfl))))).trans hr
      · exact (hu.block _ (Array.getElem?_eq_some_iff.1 hd).1 (fun h => h.1 ((hiff _).2 (.inr (.inr rfl))))).trans hd
    · rintro A2 pre x W ⟨B, hiff, n1, n2, hl, hr, hd, hi⟩ hlies
      refine .inr ⟨w.heap.size + 1, rfl, fun m => ?_⟩
      have hlt : w.heap.size + 1 < W.heap.size := (Array.getElem?_eq_some_iff.1 hr).1
      have hy := run_yield (P := Tryz.prog) (args := #[pairV x]) hr (by rw [hrec]; exact hps.symm)
      rw [hrec] at hy
      refine ⟨fn, _, assign, body, hy, roundIn_of_wpIn hfn (wpIn_mono (hround m (w.heap.size + 1) B pre x W hi hl n1 hlt) ?_)⟩
      clear hy
      intro e0 a0 Wa hp0
      cases e0 with
      | exit _ => exact hp0.elim
      | goto _ => exact hp0.elim
      | ret => exact hp0.elim
      | panic _ => exact hp0.elim
      | outgrown => exact hp0.elim
      | normal =>
      obtain ⟨hu0, hbody⟩ := hp0
      have hra : Wa.heap[w.heap.size + 1]? = some (.loop (rec .ready none)) := (hu0.block _ hlt id).trans hr
      have hda : Wa.heap[w.heap.size]? = some (.deferred (some [])) := (hu0.block _ (by omega) id).trans hd
      have hlta : w.heap.size + 1 < Wa.heap.size := (Array.getElem?_eq_some_iff.1 hra).1
      refine ⟨_, run_beginRound hra (by rw [hrec]), ?_⟩
      have hu1' : Upd (fun k => k = w.heap.size + 1) Wa (Wa.putObj (w.heap.size + 1) (.loop { rec .ready none with state := .busy })) := Upd.put _ _
      have hl2 : (Wa.putObj (w.heap.size + 1) (.loop { rec .ready none with state := .busy })).heap[w.heap.size + 1]? = some (.loop { rec .ready none with state := .busy }) := World.putObj_heap_same hlta
      have hk2 : (Wa.putObj (w.heap.size + 1) (.loop { rec .ready none with state := .busy })).heap[w.heap.size]? = some (.deferred (some [])) := (World.putObj_heap_other (by omega)).trans hda
      have hbody2 := hbody _ hu1'
      clear hbody
      generalize (Wa.putObj (w.heap.size + 1) (.loop { rec .ready none with state := .busy })) = Wb at hu1' hl2 hk2 hbody2
      have hu1 : Upd (fun k => k = w.heap.size + 1) W Wb := (hu0.mono fun k h => h.elim).trans hu1' (fun _ _ h => h)
      have hszb : w.heap.size + 1 < Wb.heap.size := (Array.getElem?_eq_some_iff.1 hl2).1
      refine wpIn_mono hbody2 ?_
      have fin : ∀ (jump : Option Code) (W3 : World), Upd B Wb W3 →
          (Instr.endRound (w.heap.size + 1) jump).run Tryz.prog W3 = .ok (.bool jump.isNone) (W3.putObj (w.heap.size + 1) (.loop (rec (if jump.isNone then .ready else .done) jump))) ∧
          (W3.putObj (w.heap.size + 1) (.loop (rec (if jump.isNone then .ready else .done) jump))).heap[w.heap.size + 1]? = some (.loop (rec (if jump.isNone then .ready else .done) jump)) ∧
          (W3.putObj (w.heap.size + 1) (.loop (rec (if jump.isNone then .ready else .done) jump))).heap[w.heap.size]? = some (.deferred (some [])) := fun jump W3 hu3 => by
        have hl3 := (hu3.block _ hszb n1).trans hl2
        have hd3 := (hu3.block _ (by omega) n2).trans hk2
        have := run_endRound (P := Tryz.prog) jump hl3
        rw [hrec] at this ⊢
        exact ⟨this, World.putObj_heap_same (Array.getElem?_eq_some_iff.1 hl3).1, (World.putObj_heap_other (by omega)).trans hd3⟩
      have out : ∀ (Z : CI) (B' : Nat → Prop) (W3 : World) (o : Obj), Minds w.heap.size Z → Ext B B' Wb → Lies B' W3 → Upd B Wb W3 → Z B' (pre ++ [x]) W3 →
          Ext A2 (fun k => B' k ∨ k = w.heap.size + 1 ∨ k = w.heap.size) W ∧ Lies (fun k => B' k ∨ k = w.heap.size + 1 ∨ k = w.heap.size) (W3.putObj (w.heap.size + 1) o) ∧ Upd A2 W (W3.putObj (w.heap.size + 1) o) ∧ ¬ B' (w.heap.size + 1) ∧ ¬ B' w.heap.size ∧ Lies B' (W3.putObj (w.heap.size + 1) o) ∧ Z B' (pre ++ [x]) (W3.putObj (w.heap.size + 1) o) := fun Z B' W3 o hZ he hl3 hu3 hi3 => by
        have m1 : ¬ B' (w.heap.size + 1) := fun h => (he.2 _ h).elim n1 (fun g => by omega)
        have m2 : ¬ B' w.heap.size := fun h => (he.2 _ h).elim n2 (fun g => by omega)
        have hu4 : Upd (fun k => k = w.heap.size + 1) W3 (W3.putObj (w.heap.size + 1) o) := Upd.put _ _
        refine ⟨⟨fun k hk => ?_, fun k hk => ?_⟩, fun k hk => ?_, ?_, m1, m2, fun k hk => by rw [World.putObj_size]; exact hl3 k hk, hZ _ _ _ _ hi3 (hu4.mono fun k e => by subst e; exact ⟨m1, by omega⟩)⟩
        · rcases (hiff k).1 hk with h | h
          · exact .inl (he.1 k h)
          · exact .inr h
        · rcases hk with h | h
          · rcases he.2 k h with h | h
            · exact .inl ((hiff k).2 (.inl h))
            · exact .inr (Nat.le_trans hu1.size h)
          · exact .inl ((hiff k).2 (.inr h))
        · rw [World.putObj_size]
          have := hu3.size
          rcases hk with h | h | h
          · exact hl3 k h
          · omega
          · omega
        · exact ((hu1.mono (G := A2) fun k e => (hiff k).2 (.inr (.inl e))).trans (hu3.mono (G := A2) fun k h => (hiff k).2 (.inl h)) (fun _ _ h => h)).trans (hu4.mono (G := A2) fun k e => (hiff k).2 (.inr (.inl e))) (fun _ _ h => h)
      rintro e a3 W3 hp
      cases e with
      | normal =>
        obtain ⟨B', he, hl3, hu3, hi3⟩ := hp
        obtain ⟨hr', f1, f2⟩ := fin none W3 hu3
        obtain ⟨g1, g2, g3, m1, m2, g4, g5⟩ := out I B' W3 _ hI he hl3 hu3 hi3
        exact ⟨_, _, hr', .inl ⟨rfl, _, g1, g2, g3, B', fun k => Iff.rfl, m1, m2, g4, f1, f2, g5⟩⟩
      | ret =>
        obtain ⟨B', he, hl3, hu3, hi3⟩ := hp
        obtain ⟨hr', f1, f2⟩ := fin (some .ret) W3 hu3
        obtain ⟨g1, g2, g3, m1, m2, g4, g5⟩ := out (X .ret) B' W3 _ (hX _) he hl3 hu3 hi3
        exact ⟨_, _, hr', .inr ⟨rfl, _, g1, g2, g3, B', .ret, fun k => Iff.rfl, m1, m2, g4, f1, f2, g5⟩⟩
      | exit id =>
        obtain ⟨B', he, hl3, hu3, hi3⟩ := hp
        obtain ⟨hr', f1, f2⟩ := fin (some (.exit id)) W3 hu3
        obtain ⟨g1, g2, g3, m1, m2, g4, g5⟩ := out (X (.exit id)) B' W3 _ (hX _) he hl3 hu3 hi3
        exact ⟨_, _, hr', .inr ⟨rfl, _, g1, g2, g3, B', .exit id, fun k => Iff.rfl, m1, m2, g4, f1, f2, g5⟩⟩
      | goto t =>
        obtain ⟨B', he, hl3, hu3, hi3⟩ := hp
        obtain ⟨hr', f1, f2⟩ := fin (some (.goto t)) W3 hu3
        obtain ⟨g1, g2, g3, m1, m2, g4, g5⟩ := out (X (.goto t)) B' W3 _ (hX _) he hl3 hu3 hi3
        exact ⟨_, _, hr', .inr ⟨rfl, _, g1, g2, g3, B', .goto t, fun k => Iff.rfl, m1, m2, g4, f1, f2, g5⟩⟩
      | panic ch => exact hp.elim
      | outgrown => exact hp.elim
    · refine ⟨A, fun k => Iff.rfl, fun h => ?_, fun h => ?_, fun k hk => Nat.lt_of_lt_of_le (hA k hk) hb1.size, hL1, hK1, hI _ _ _ _ h0 (Upd.of_below hb1)⟩
      · have := hA _ h; omega
      · have := hA _ h; omega
    · rintro k (h | h | h)
      · exact Nat.lt_of_lt_of_le (hA k h) hb1.size
      · omega
      · omega
    · rintro e W2 ⟨⟨v, rfl⟩, ⟨A', he, hl2, hu2, B, hiff, n1, n2, hl, hr, hd, hi⟩ | ⟨q, A', hq, he, hl2, hu2, B, c, hiff, n1, n2, hl, hr, hd, hx⟩⟩
      · refine ⟨none, _, by have := run_endLoop (P := Tryz.prog) hr (by rw [hrec]; simp); rw [hrec] at this; exact this, ?_⟩
        exact hdone B _ (fun k hk => by rw [World.putObj_size]; exact hl k hk) (hI _ _ _ _ hi ((Upd.put _ _).mono fun k e => by subst e; exact ⟨n1, by omega⟩)) ((World.putObj_heap_other (by omega)).trans hd)
      · refine ⟨some c, _, by have := run_endLoop (P := Tryz.prog) hr (by rw [hrec]; simp); rw [hrec] at this; exact this, ?_⟩
        exact (wpIn_wide (n := 0)).2 (hstop c B q _ hq (fun k hk => by rw [World.putObj_size]; exact hl k hk) (hX c _ _ _ _ hx ((Upd.put _ _).mono fun k e => by subst e; exact ⟨n1, by omega⟩)) ((World.putObj_heap_other (by omega)).trans hd))
end Go.Proofs.YtllmdfkiogmofaaGreatDoor
