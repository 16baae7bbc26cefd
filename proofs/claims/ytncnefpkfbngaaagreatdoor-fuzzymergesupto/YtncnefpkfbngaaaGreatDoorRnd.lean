/- A region that draws its order inside a round of a range over a function; a range over a function whose rounds are told by number. -/
import Derived.Test.YtncnefpkfbngaaaGreatDoorGf
import Derived.Test.YtncnefpkfbngaaaGreatDoorFBld
import Derived.RangeFuncNested
import Derived.RangeFuncCalls
import Derived.OrdersIn
namespace Go.Proofs.YtncnefpkfbngaaaGreatDoor
open Go.RowKit
set_option maxRecDepth 100000

def noDefer (l : List Oper) : Bool := l.all fun o => match o.op with | .defer _ => false | _ => true
section
variable {F : Fence} {n : Nat} {P : Program} {md : Region.Mode} {ops : Array Oper} {Q : Exit → Act → World → Prop}
theorem rowsIn_wide {row : String} {args : Array Value} {w : World} {R : Value → World → Prop} (h : Rows P row args w R) : RowsIn Fence.wide n P row args w R :=
 fun c cs _ => let ⟨v, w', r, s⟩ := h c cs; ⟨v, w', r, stepsIn_wide.2 s⟩
theorem wp_toWide {o : Oper} {a : Act} {w : World} {K : Act → World → Prop} (h : o.wp P a w K Q) : o.wpIn Fence.wide n P a w K Q := by
 unfold Oper.wp at h
 unfold Oper.wpIn
 refine ⟨fun _ _ => trivial, ?_⟩
 show o.uponIn Fence.wide n P a K Q ((o.semAt none a.eval).run P w)
 rw [Oper.semAt_none]
 generalize (execOp a.eval o).run P w = r at *
 cases r with
 | ok x w' =>
  cases x with
  | enter f args => exact ⟨fun h => by simp [Fence.wide] at h, callsIn_wide.2 h⟩
  | row r args => exact ⟨fun h => by simp [Fence.wide] at h, rowsIn_wide h⟩
  | _ => first | exact h | exact h.elim
 | halt x w' => cases x <;> first | exact h | exact h.elim
theorem wpOp_toWide {i : Nat} {a : Act} {w : World} {K : Act → World → Prop} (hlo : ¬ LetsOut Q) (h : wpOp P ops Q i K a w) : wpOpIn Fence.wide n P ops Q i K a w := by
 unfold wpOp at h
 unfold wpOpIn
 cases ho : ops[i]? with
 | none => simp only [ho] at h ⊢; exact h
 | some o =>
  simp only [ho] at h ⊢
  by_cases hw : Region.wanted o (yielded ops a.tmps) = true
  · rw [if_pos hw] at h ⊢
    rcases h with h | h
    · exact wp_toWide h
    · exact absurd h.2 hlo
  · rw [if_neg hw] at h ⊢
    exact ⟨fun _ _ => trivial, h⟩
theorem wpAny_toWide (hlo : ¬ LetsOut Q) : ∀ (fuel : Nat) (listed : Array Bool) (a : Act) (w : World), wpAny P md ops Q fuel listed a w → wpAnyIn Fence.wide n P md ops Q fuel listed a w
 | 0, _, _, _, h => h
 | fuel + 1, _, _, _, h => ⟨h.1, fun i hi => wpOpIn_mono (fun a' w' h' => wpAny_toWide hlo fuel _ a' w' h') (wpOp_toWide hlo (h.2 i hi))⟩
theorem wpIn_toRound {o : Oper} {a : Act} {w : World} {K : Act → World → Prop} (lp : Nat) (hro : F.round = none) (hd : ∀ c, o.op ≠ .defer c) (h : o.wpIn F n P a w K Q) : o.wpIn (F.inRound lp) n P a w K Q := by
 unfold Oper.wpIn at *
 refine ⟨h.1, ?_⟩
 have h2 := h.2
 rw [hro, Oper.semAt_none] at h2
 rw [Oper.semAt_eq _ _ _ hd]
 generalize (execOp a.eval o).run P w = r at *
 cases r with
 | ok x w' => cases x <;> exact h2
 | halt x w' => cases x <;> exact h2
theorem wpAnyIn_toRound (lp : Nat) (hro : F.round = none) (hd : noDefer ops.toList = true) : ∀ (fuel : Nat) (listed : Array Bool) (a : Act) (w : World), wpAnyIn F n P md ops Q fuel listed a w → wpAnyIn (F.inRound lp) n P md ops Q fuel listed a w
 | 0, _, _, _, h => h
 | fuel + 1, listed, a, w, h => ⟨h.1, fun i hi => by
  refine wpOpIn_mono (fun a' w' h' => wpAnyIn_toRound lp hro hd fuel _ a' w' h') ?_
  have h2 := h.2 i hi
  unfold wpOpIn at *
  cases ho : ops[i]? with
  | none => simp only [ho] at h2 ⊢; exact h2
  | some o =>
   simp only [ho] at h2 ⊢
   split
   · rename_i hw
     rw [if_pos hw] at h2
     refine wpIn_toRound lp hro (fun c hc => ?_) h2
     have := List.all_eq_true.1 hd o (by rw [← Array.mem_def]; exact Array.mem_of_getElem? ho)
     rw [hc] at this
     cases this
   · rename_i hw
     rw [if_neg hw] at h2
     exact h2⟩
/-- A drawn region inside a round, as region_at. -/
theorem round_at {S : World → Prop} {id lp : Nat} {a : Act} {w : World} (k : Nat) (hk : ops.size = k) (hm : P.follows .mixedOrders = true) (hd : noDefer ops.toList = true) (hlo : ¬ LetsOut Q) (hS : S w.drew) (h : S w.drew → wpAnyH P .any ops Q S k (Array.replicate k false) a w.drew) : (Code.region id ops true).wpIn (Fence.wide.inRound lp) n P Q a w := by
 subst hk
 exact wpIn_region_any hm (wpAnyIn_toRound lp rfl hd _ _ _ _ (wpAny_toWide hlo _ _ _ _ (wpAny_of_held _ _ _ _ (h hS))))
/-- The same, as region_atE. -/
theorem round_atE {S : World → Prop} {id lp : Nat} {a : Act} {w : World} (k z : Nat) (hk : ops.size = k) (hm : P.follows .mixedOrders = true) (hd : noDefer ops.toList = true) (hlo : ¬ LetsOut Q) (h : wpAnyE P .any ops Q S z k (Array.replicate k false) a w.drew) : (Code.region id ops true).wpIn (Fence.wide.inRound lp) n P Q a w := by
 subst hk
 exact wpIn_region_any hm (wpAnyIn_toRound lp rfl hd _ _ _ _ (wpAny_toWide hlo _ _ _ _ (wpAny_of_E _ _ _ _ h)))
end
theorem Upd.putR {W : World} (l : Nat) (o : Obj) : Upd (fun k => k = l) W (W.putObj l o) :=
 ⟨rfl, rfl, rfl, by simp, fun k _ hk => World.putObj_heap_other hk⟩
/-- What a round's body comes to: the loop's own blocks are not touched. -/
def roundB (I : Nat → World → Prop) (d k : Nat) (W : World) : Exit → Act → World → Prop
 | .normal, _, W' => (∃ G : Nat → Prop, Upd G W W' ∧ ¬ G d ∧ ¬ G (d + 1)) ∧ I (k + 1) W'
 | _, _, _ => False
/-- What an iterator without cells of its own says: N rounds, the k-th with enc k. -/
def SeqB (gf : Nat) (lb : Array Value) (enc : Nat → Array Value) (N : Nat) (T : World → Prop) : Prop :=
 ∀ (yl : Nat) (J : Nat → World → Prop) (W : World), (∀ k W, J k W → T W) → (∀ k W, k < N → J k W → YieldAt Fence.wide 0 Tryz.prog yl (enc k) W fun e W' => e = .returned (.bool true) ∧ J (k + 1) W') → J 0 W →
  Calls Tryz.prog gf (#[.func (.yield yl) #[] #[]] ++ lb) W fun e W' => (∃ v, e = .returned v) ∧ J N W'
set_option maxHeartbeats 1000000 in
theorem wp_rangeB {g : Operand} {ps : Array Tmp} {assign body : Code} {Q : Exit → Act → World → Prop} {a : Act} {w : World} {gf : Nat} {lb : Array Value} {enc : Nat → Array Value} {N : Nat} {T : World → Prop}
 (hg : a.eval g = .func (.func gf) #[] lb) (eg : ∀ args w, (callFunc gf args).run Tryz.prog w = .ok (.enter gf args) w) (hseq : SeqB gf lb enc N T) (hps : ∀ k, ps.size = (enc k).size)
 (I : Nat → World → Prop) (hT : ∀ k W, I k W → T W) (hI : ∀ k W W', I k W → Upd (fun j => j = w.heap.size ∨ j = w.heap.size + 1) W W' → I k W') (h0 : I 0 w)
 (hround : ∀ l k W, k < N → I k W → w.heap.size + 1 < W.heap.size → assign.wpIn (Fence.wide.inRound l) 0 Tryz.prog (Exit.then (fun a1 W1 => Upd (fun _ => False) W W1 ∧ ∀ W2, Upd (fun j => j = w.heap.size + 1) W1 W2 → body.wpIn (Fence.wide.inRound l) 0 Tryz.prog (roundB I w.heap.size k W2) a1 W2) (fun _ _ _ => False)) { tmps := (ps.zip (enc k)).foldl (fun t (p, v) => t.setIfInBounds p v) a.tmps, defers := [] } W)
 (hdone : ∀ W, I N W → W.heap[w.heap.size]? = some (.deferred (some [])) → Q .normal { a with defers := { target := .collected w.heap.size, args := #[] } :: a.defers } W) :
 (Code.rangeFunc g ps assign body).wp Tryz.prog Q a w := by
 refine (wpIn_wide (n := 0)).1 (wpIn_rangeFunc ?_)
 intro fn hfn
 rw [Fence.wide_round]
 obtain ⟨rec, hrec⟩ : ∃ rec : LoopState → Option Code → Loop, rec = fun st pe => { state := st, pending := pe, fn, tmps := a.tmps, params := ps, assign, body, defers := w.heap.size } := ⟨_, rfl⟩
 obtain ⟨W1, hW1⟩ : ∃ W1, (w.alloc (.deferred (some []))).alloc (.loop (rec .ready none)) = W1 := ⟨_, rfl⟩
 have hL1 : W1.heap[w.heap.size + 1]? = some (.loop (rec .ready none)) := by
  rw [← hW1]; have := World.alloc_heap_new (w.alloc (.deferred (some []))) (.loop (rec .ready none)); rwa [World.size_alloc] at this
 have hK1 : W1.heap[w.heap.size]? = some (.deferred (some [])) := by
  rw [← hW1]; exact (Below.heap_alloc _ _ _ (by simp)).trans (World.alloc_heap_new w _)
 have hb1 : Below w.heap.size w W1 := by rw [← hW1]; exact ((Below.refl _ w).alloc (Nat.le_refl _) _).alloc (by simp) _
 let J : Nat → World → Prop := fun k W => W.heap[w.heap.size + 1]? = some (.loop (rec .ready none)) ∧ W.heap[w.heap.size]? = some (.deferred (some [])) ∧ I k W
 refine ⟨w.heap.size + 1, [{ target := .collected w.heap.size, args := #[] }], W1, { target := .fn (.func gf) lb, args := #[.func (.yield (w.heap.size + 1)) #[] #[]] }, W1, gf,
  #[.func (.yield (w.heap.size + 1)) #[] #[]] ++ lb, W1, ?_, ?_, fun _ _ => trivial, ?_, fun h => by simp [Fence.wide] at h, ?_⟩
 · rw [← hW1, hrec]; exact run_enterLoop_outer _ _ _ _ _
 · simp only [resolve, hg]
   simp [go_sem]
 · simp [invoke, go_sem, eg]
 · refine callsIn_wide.2 ((hseq (w.heap.size + 1) J W1 (fun k W h => hT k W h.2.2) ?_ ⟨hL1, hK1, hI _ _ _ h0 (Upd.of_below hb1)⟩).mono ?_)
   · rintro k W hk ⟨hr, hd, hi⟩
     have hlt : w.heap.size + 1 < W.heap.size := (Array.getElem?_eq_some_iff.1 hr).1
     have hy := run_yield (P := Tryz.prog) (args := enc k) hr (by rw [hrec]; exact (hps k).symm)
     rw [hrec] at hy
     refine ⟨fn, _, assign, body, hy, roundIn_of_wpIn hfn (wpIn_mono (hround (w.heap.size + 1) k W hk hi hlt) ?_)⟩
     clear hy
     intro e0 a0 Wa hp0
     cases e0 with
     | exit _ => exact hp0.elim
     | goto _ => exact hp0.elim
     | ret => exact hp0.elim
     | panic _ => exact hp0.elim
     | outgrown => exact hp0.elim
     | normal =>
     obtain ⟨hu0, hbody⟩ := hp0
     have hra : Wa.heap[w.heap.size + 1]? = some (.loop (rec .ready none)) := (hu0.block _ hlt id).trans hr
     have hda : Wa.heap[w.heap.size]? = some (.deferred (some [])) := (hu0.block _ (by omega) id).trans hd
     have hlta : w.heap.size + 1 < Wa.heap.size := (Array.getElem?_eq_some_iff.1 hra).1
     refine ⟨_, run_beginRound hra (by rw [hrec]), ?_⟩
     have hl2 : (Wa.putObj (w.heap.size + 1) (.loop { rec .ready none with state := .busy })).heap[w.heap.size + 1]? = some (.loop { rec .ready none with state := .busy }) := World.putObj_heap_same hlta
     have hk2 : (Wa.putObj (w.heap.size + 1) (.loop { rec .ready none with state := .busy })).heap[w.heap.size]? = some (.deferred (some [])) := (World.putObj_heap_other (by omega)).trans hda
     have hbody2 := hbody _ (Upd.putR (W := Wa) (w.heap.size + 1) (.loop { rec .ready none with state := .busy }))
     clear hbody
     generalize (Wa.putObj (w.heap.size + 1) (.loop { rec .ready none with state := .busy })) = Wb at hl2 hk2 hbody2
     have hszb : w.heap.size + 1 < Wb.heap.size := (Array.getElem?_eq_some_iff.1 hl2).1
     refine wpIn_mono hbody2 ?_
     rintro e a3 W3 hp
     cases e with
     | normal =>
      obtain ⟨⟨G, hu3, n2, n1⟩, hi3⟩ := hp
      have hl3 := (hu3.block _ hszb n1).trans hl2
      have hd3 := (hu3.block _ (by omega) n2).trans hk2
      have he := run_endRound (P := Tryz.prog) none hl3
      rw [hrec] at he
      refine ⟨_, _, he, rfl, ?_, (World.putObj_heap_other (by omega)).trans hd3, hI _ _ _ hi3 ((Upd.putR _ _).mono fun k e => .inr e)⟩
      rw [hrec]
      exact World.putObj_heap_same (Array.getElem?_eq_some_iff.1 hl3).1
     | ret => exact hp.elim
     | exit id => exact hp.elim
     | goto t => exact hp.elim
     | panic ch => exact hp.elim
     | outgrown => exact hp.elim
   · rintro e W2 ⟨⟨v, rfl⟩, hr, hd, hi⟩
     refine ⟨none, _, by have := run_endLoop (P := Tryz.prog) hr (by rw [hrec]; simp); rw [hrec] at this; exact this, ?_⟩
     exact hdone _ (hI _ _ _ hi ((Upd.putR _ _).mono fun k e => .inr e)) ((World.putObj_heap_other (by omega)).trans hd)
end Go.Proofs.YtncnefpkfbngaaaGreatDoor
