/- Texts that were written apart, joined. -/
import Derived.Test.YtllmdfkiogmofaaGreatDoorJ3
import Derived.Deep.RegionHeld3
import Derived.Test.YtllmdfkiogmofaaGreatDoorKMap
/- Regions that draw their order, operation by operation. -/
namespace Go.Proofs.YtllmdfkiogmofaaGreatDoor
open Go.RowKit
set_option maxRecDepth 100000
variable {P : Program} {md : Region.Mode} {ops : Array Oper} {Q : Exit → Act → World → Prop} {S : World → Prop}

theorem region_at {id : Nat} {a : Act} {w : World} (k : Nat) (hk : ops.size = k) (hm : P.follows .mixedOrders = true) (hS : S w.drew) (h : S w.drew → wpAnyH P .any ops Q S k (Array.replicate k false) a w.drew) : (Code.region id ops true).wp P Q a w := by
  subst hk; exact wp_region_held_drew hm hS h
theorem take_at {i : Nat} {oi : Oper} {v : Value} {fuel : Nat} {listed : Array Bool} {tmps : Array Value} {df : List Deferred} {w : World} (t : Tmp) (hi : ops[i]? = some oi) (hd : oi.dst = some t)
    (hs : Region.noSelect ops = true) (hf : Region.free md ops listed i = true) (hr : (Region.ready md ops listed).contains i = true)
    (hQ : ∀ c a w, Q (.panic c) (a.put oi.dst v) w → Q (.panic c) a w) (hw : Region.wanted oi (yielded ops tmps) = true) (hy : ∀ w, S w → (execOp (Act.eval { tmps := tmps, defers := df }) oi).run P w = .ok (.value v) w) (hS : S w)
    (h : wpAnyH P md ops Q S fuel (listed.setIfInBounds i true) { tmps := tmps.setIfInBounds t v, defers := df } w) : wpAnyH P md ops Q S (fuel + 1) listed { tmps := tmps, defers := df } w := by
  refine wpAnyH_take hi hs hf hr hQ (.inl ⟨hw, hy⟩) hS ?_
  rw [hd]; exact h
/-- One operation that may come up alone, and gives a value. -/
theorem one_value {i : Nat} {o : Oper} {fuel : Nat} {listed : Array Bool} {tmps : Array Value} {df : List Deferred} {w w' : World} {v : Value} (t : Tmp) (hr : Region.ready md ops listed = [i]) (ho : ops[i]? = some o) (hd : o.dst = some t) (hw : Region.wanted o (yielded ops tmps) = true)
    (hrun : (execOp (Act.eval { tmps := tmps, defers := df }) o).run P w = .ok (.value v) w') (hS : S w') (h : S w' → wpAnyH P md ops Q S fuel (listed.setIfInBounds i true) { tmps := tmps.setIfInBounds t v, defers := df } w') : wpAnyH P md ops Q S (fuel + 1) listed { tmps := tmps, defers := df } w := by
  refine wpAnyH_ready hr (by simp) (AllReadyH.cons ho (fun K hK => ?_) AllReadyH.nil)
  rw [if_pos hw]
  unfold Oper.wp
  rw [hrun, Oper.upon_value, hd]
  exact hK.out _ _ hS h
/-- One of two, each of which gives a value. -/
theorem two_value {i j : Nat} {o o' : Oper} {fuel : Nat} {listed : Array Bool} {tmps : Array Value} {df : List Deferred} {w w1 w2 : World} {v v' : Value} (t t' : Tmp) (hr : Region.ready md ops listed = [i, j]) (ho : ops[i]? = some o) (ho' : ops[j]? = some o') (hd : o.dst = some t) (hd' : o'.dst = some t') (hw : Region.wanted o (yielded ops tmps) = true) (hw' : Region.wanted o' (yielded ops tmps) = true)
    (hrun : (execOp (Act.eval { tmps := tmps, defers := df }) o).run P w = .ok (.value v) w1) (hS : S w1) (h : S w1 → wpAnyH P md ops Q S fuel (listed.setIfInBounds i true) { tmps := tmps.setIfInBounds t v, defers := df } w1)
    (hrun' : (execOp (Act.eval { tmps := tmps, defers := df }) o').run P w = .ok (.value v') w2) (hS' : S w2) (h' : S w2 → wpAnyH P md ops Q S fuel (listed.setIfInBounds j true) { tmps := tmps.setIfInBounds t' v', defers := df } w2) : wpAnyH P md ops Q S (fuel + 1) listed { tmps := tmps, defers := df } w := by
  refine wpAnyH_ready hr (by simp) (AllReadyH.cons ho (fun K hK => ?_) (AllReadyH.cons ho' (fun K hK => ?_) AllReadyH.nil))
  · rw [if_pos hw]
    unfold Oper.wp
    rw [hrun, Oper.upon_value, hd]
    exact hK.out _ _ hS h
  · rw [if_pos hw']
    unfold Oper.wp
    rw [hrun', Oper.upon_value, hd']
    exact hK.out _ _ hS' h'
/-- One operation that may come up alone, whatever it does. -/
theorem one_at {i : Nat} {o : Oper} {fuel : Nat} {listed : Array Bool} {tmps : Array Value} {df : List Deferred} {w : World} (t : Tmp) (hr : Region.ready md ops listed = [i]) (ho : ops[i]? = some o) (hd : o.dst = some t) (hw : Region.wanted o (yielded ops tmps) = true)
    (h : ∀ K : Act → World → Prop, (∀ v w', S w' → (S w' → wpAnyH P md ops Q S fuel (listed.setIfInBounds i true) { tmps := tmps.setIfInBounds t v, defers := df } w') → K (Act.put { tmps := tmps, defers := df } o.dst v) w') → o.wp P { tmps := tmps, defers := df } w K Q) : wpAnyH P md ops Q S (fuel + 1) listed { tmps := tmps, defers := df } w := by
  refine wpAnyH_ready hr (by simp) (AllReadyH.cons ho (fun K hK => ?_) AllReadyH.nil)
  rw [if_pos hw]
  refine h K fun v w' hS h => ?_
  rw [hd]
  exact hK.out _ _ hS h
theorem triv_facts {w : World} (_ : (fun _ : World => True) w) : True := trivial
/-- One of two, whatever they do. -/
theorem two_at {i j : Nat} {o o' : Oper} {fuel : Nat} {listed : Array Bool} {tmps : Array Value} {df : List Deferred} {w : World} (t t' : Tmp) (hr : Region.ready md ops listed = [i, j]) (ho : ops[i]? = some o) (ho' : ops[j]? = some o') (hd : o.dst = some t) (hd' : o'.dst = some t') (hw : Region.wanted o (yielded ops tmps) = true) (hw' : Region.wanted o' (yielded ops tmps) = true)
    (h : ∀ K : Act → World → Prop, (∀ v w', S w' → (S w' → wpAnyH P md ops Q S fuel (listed.setIfInBounds i true) { tmps := tmps.setIfInBounds t v, defers := df } w') → K (Act.put { tmps := tmps, defers := df } o.dst v) w') → o.wp P { tmps := tmps, defers := df } w K Q)
    (h' : ∀ K : Act → World → Prop, (∀ v w', S w' → (S w' → wpAnyH P md ops Q S fuel (listed.setIfInBounds j true) { tmps := tmps.setIfInBounds t' v, defers := df } w') → K (Act.put { tmps := tmps, defers := df } o'.dst v) w') → o'.wp P { tmps := tmps, defers := df } w K Q) : wpAnyH P md ops Q S (fuel + 1) listed { tmps := tmps, defers := df } w := by
  refine wpAnyH_ready hr (by simp) (AllReadyH.cons ho (fun K hK => ?_) (AllReadyH.cons ho' (fun K hK => ?_) AllReadyH.nil))
  · rw [if_pos hw]
    refine h K fun v w' hS h => ?_
    rw [hd]
    exact hK.out _ _ hS h
  · rw [if_pos hw']
    refine h' K fun v w' hS h => ?_
    rw [hd']
    exact hK.out _ _ hS h
/-- One operation without a value. -/
theorem one_skip {i : Nat} {o : Oper} {fuel : Nat} {listed : Array Bool} {tmps : Array Value} {df : List Deferred} {w w' : World} (hr : Region.ready md ops listed = [i]) (ho : ops[i]? = some o) (hd : o.dst = none) (hw : Region.wanted o (yielded ops tmps) = true)
    (hrun : (execOp (Act.eval { tmps := tmps, defers := df }) o).run P w = .ok .skip w') (hS : S w') (h : S w' → wpAnyH P md ops Q S fuel (listed.setIfInBounds i true) { tmps := tmps, defers := df } w') : wpAnyH P md ops Q S (fuel + 1) listed { tmps := tmps, defers := df } w := by
  refine wpAnyH_ready hr (by simp) (AllReadyH.cons ho (fun K hK => ?_) AllReadyH.nil)
  rw [if_pos hw]
  unfold Oper.wp
  rw [hrun, Oper.upon_skip, hd]
  exact hK.out _ _ hS h
theorem wp_val {o : Oper} {a : Act} {w w' : World} {v : Value} {K : Act → World → Prop} (hrun : (execOp a.eval o).run P w = .ok (.value v) w') (h : K (a.put o.dst v) w') : o.wp P a w K Q := by
  unfold Oper.wp
  rw [hrun]
  exact h
theorem wp_enter {o : Oper} {a : Act} {w w0 : World} {K : Act → World → Prop} (f : FuncId) (args : Array Value) (hrun : (execOp a.eval o).run P w = .ok (.enter f args) w0) (h : Calls P f args w0 fun e w' => ∃ v, e = .returned v ∧ K (a.put o.dst v) w') : o.wp P a w K Q := by
  unfold Oper.wp
  rw [hrun, Oper.upon_enter]
  refine h.mono ?_
  rintro e w' ⟨v, rfl, h2⟩
  exact h2
/-- One call of a function. -/
theorem one_call {i : Nat} {o : Oper} {fuel : Nat} {listed : Array Bool} {tmps : Array Value} {df : List Deferred} {w w0 : World} (t : Tmp) (f : FuncId) (args : Array Value) (hr : Region.ready md ops listed = [i]) (ho : ops[i]? = some o) (hd : o.dst = some t) (hw : Region.wanted o (yielded ops tmps) = true)
    (hrun : (execOp (Act.eval { tmps := tmps, defers := df }) o).run P w = .ok (.enter f args) w0)
    (h : Calls P f args w0 fun e w' => ∃ v, e = .returned v ∧ S w' ∧ (S w' → wpAnyH P md ops Q S fuel (listed.setIfInBounds i true) { tmps := tmps.setIfInBounds t v, defers := df } w')) : wpAnyH P md ops Q S (fuel + 1) listed { tmps := tmps, defers := df } w := by
  refine one_at t hr ho hd hw fun K hK => ?_
  unfold Oper.wp
  rw [hrun, Oper.upon_enter]
  refine h.mono ?_
  rintro e w' ⟨v, rfl, hS, h2⟩
  exact hK v w' hS h2
theorem exec_lookup (ρ : Operand → Value) (x y : Operand) (c : Bool) (t : TypeId) (dst : Option Tmp) (ty : TypeId) (pos : String) (af : Array Edge) (g : Option (Nat × Bool)) (w : World) :
    (execOp ρ ⟨dst, .lookup t x y c, ty, pos, af, g⟩).run P w = ((Instr.lookup t (ρ x) (ρ y) c).run P w).andThen (fun v w' => .ok (.value v) w') := by
  simp only [execOp, Sem.run_bind, Sem.run_pure]
end Go.Proofs.YtllmdfkiogmofaaGreatDoor

/- A region that draws its order, whose last operation (number z) waits for all others, and changes what they look at. -/
namespace Go.Proofs.YtllmdfkiogmofaaGreatDoor
open Go.RowKit
section
variable {P : Program} {md : Region.Mode} {ops : Array Oper} {Q : Exit → Act → World → Prop} {S : World → Prop} {z : Nat}

/-- Whatever order is picked, and S holds behind every operation but z. -/
def wpAnyE (P : Program) (md : Region.Mode) (ops : Array Oper) (Q : Exit → Act → World → Prop) (S : World → Prop) (z : Nat) : Nat → Array Bool → Act → World → Prop
  | 0, listed, a, w => Region.ready md ops listed = [] ∧ Q .normal a w
  | fuel + 1, listed, a, w =>
    (Region.ready md ops listed = [] → Q .normal a w) ∧
    ∀ i ∈ Region.ready md ops listed, wpOp P ops Q i (fun a' w' => (i ≠ z → S w') ∧ wpAnyE P md ops Q S z fuel (listed.setIfInBounds i true) a' w') a w
theorem wpAny_of_E : ∀ (fuel : Nat) (listed : Array Bool) (a : Act) (w : World), wpAnyE P md ops Q S z fuel listed a w → wpAny P md ops Q fuel listed a w
  | 0, _, _, _, h => h
  | fuel + 1, _, _, _, h => ⟨h.1, fun i hi => wpOp_mono (fun a' w' h' => wpAny_of_E fuel _ a' w' h'.2) (h.2 i hi)⟩
/-- Number z waits for number i. -/
def waitsZ (md : Region.Mode) (ops : Array Oper) (z i : Nat) : Bool := ((ops[z]?).map fun o => o.after.any fun e => Region.binds md e && e.on == i).getD false
theorem waitsZ_spec {i : Nat} {listed : Array Bool} (h : waitsZ md ops z i = true) (hz : z ∈ Region.ready md ops listed) : listed.getD i false = true := by
  obtain ⟨_, oz, hoz, hall⟩ := mem_ready.1 hz
  unfold waitsZ at h
  rw [hoz] at h
  simp only [Option.map_some, Option.getD_some, Array.any_eq_true] at h
  obtain ⟨k, hk, he⟩ := h
  simp only [Bool.and_eq_true, beq_iff_eq] at he
  have := hall oz.after[k] (Array.getElem_mem hk) he.1
  rw [he.2] at this
  exact this
theorem wpAnyE_first {i : Nat} {oi : Oper} {v : Value} (hi : ops[i]? = some oi) (hsel : ∀ (j : Nat) (o : Oper) cs b, ops[j]? = some o → o.op ≠ .select cs b)
    (hQ : ∀ c a w, Q (.panic c) (a.put oi.dst v) w → Q (.panic c) a w) (hz : waitsZ md ops z i = true) :
    ∀ (fuel : Nat) (listed : Array Bool) (a : Act) (w : World),
      (∀ j oj, ops[j]? = some oj → j ≠ i → listed.getD j true = false → (∀ e ∈ oj.after, Region.binds md e = true → e.on ≠ i) → oi.apart ops oj = true) →
      i ∈ Region.ready md ops listed → YieldsIf P ops S oi v a → S w →
      wpAnyE P md ops Q S z fuel (listed.setIfInBounds i true) (a.put oi.dst v) w → wpAnyE P md ops Q S z (fuel + 1) listed a w := by
  intro fuel
  induction fuel with
  | zero =>
    intro listed a w _ hr hy hS H
    refine ⟨fun h => (by rw [h] at hr; cases hr), fun j hj => ?_⟩
    by_cases hji : j = i
    · subst hji; exact hy.wpOp hi hS ⟨fun _ => hS, H⟩
    · have := ready_mono hj hji
      rw [H.1] at this
      cases this
  | succ fuel ih =>
    intro listed a w hfree hr hy hS H
    refine ⟨fun h => (by rw [h] at hr; cases hr), fun j hj => ?_⟩
    by_cases hji : j = i
    · subst hji; exact hy.wpOp hi hS ⟨fun _ => hS, H⟩
    · have h1 := H.2 j (ready_mono hj hji)
      obtain ⟨hjun, oj, hoj, hall⟩ := mem_ready.1 hj
      have hnl : listed.getD i false = true → False := fun h1 => by
        have h0 := (mem_ready.1 hr).1
        rcases Nat.lt_or_ge i listed.size with h' | h'
        · simp [h'] at h0 h1; rw [h0] at h1; cases h1
        · simp [Array.getElem?_eq_none h'] at h1
      have hnot : ∀ e ∈ oj.after, Region.binds md e = true → e.on ≠ i := fun e he hb heq => by
        have h1 := hall e he hb
        rw [heq] at h1
        exact hnl h1
      have hjz : j ≠ z := fun e => hnl (waitsZ_spec hz (e ▸ hj))
      have h2 := wpOp_putIf hoj (hfree j oj hoj hji hjun hnot) (fun cs b => hsel i oi cs b hi) (fun cs b => hsel j oj cs b hoj) hQ hy h1
      have hfree' : ∀ k ok, ops[k]? = some ok → k ≠ i → (listed.setIfInBounds j true).getD k true = false →
          (∀ e ∈ ok.after, Region.binds md e = true → e.on ≠ i) → oi.apart ops ok = true := fun k ok hk hki hun hno => by
        refine hfree k ok hk hki ?_ hno
        by_cases hjk : j = k
        · subst hjk; exact hjun
        · rw [getD_set_ne true hjk] at hun; exact hun
      refine wpOp_mono (fun a' w' h3 => ⟨h3.2.1, ih (listed.setIfInBounds j true) a' w' hfree' (ready_mono hr (Ne.symm hji)) h3.1 (h3.2.1 hjz) ?_⟩) h2
      rw [Array.setIfInBounds_comm _ _ hji]
      exact h3.2.2
theorem wpAnyE_take {i : Nat} {oi : Oper} {v : Value} {fuel : Nat} {listed : Array Bool} {a : Act} {w : World} (hi : ops[i]? = some oi) (hz : waitsZ md ops z i = true)
    (hs : Region.noSelect ops = true) (hf : Region.free md ops listed i = true) (hr : (Region.ready md ops listed).contains i = true)
    (hQ : ∀ c a w, Q (.panic c) (a.put oi.dst v) w → Q (.panic c) a w) (hy : YieldsIf P ops S oi v a) (hS : S w)
    (h : wpAnyE P md ops Q S z fuel (listed.setIfInBounds i true) (a.put oi.dst v) w) : wpAnyE P md ops Q S z (fuel + 1) listed a w :=
  wpAnyE_first hi (Region.noSelect_spec hs) hQ hz fuel listed a w (Region.free_spec hi hf) (by simpa using hr) hy hS h
theorem wpAnyE_done {listed : Array Bool} {a : Act} {w : World} (hr : Region.ready md ops listed = []) (h : Q .normal a w) :
    ∀ fuel, wpAnyE P md ops Q S z fuel listed a w
  | 0 => ⟨hr, h⟩
  | _ + 1 => ⟨fun _ => h, by rw [hr]; simp⟩
theorem region_atE {id : Nat} {a : Act} {w : World} (k z : Nat) (hk : ops.size = k) (hm : P.follows .mixedOrders = true) (h : wpAnyE P .any ops Q S z k (Array.replicate k false) a w.drew) : (Code.region id ops true).wp P Q a w := by
  subst hk
  exact wp_region_any hm (wpAny_of_E _ _ _ _ h)
theorem take_atE {i : Nat} {oi : Oper} {v : Value} {fuel : Nat} {listed : Array Bool} {tmps : Array Value} {df : List Deferred} {w : World} (t : Tmp) (hi : ops[i]? = some oi) (hd : oi.dst = some t) (hz : waitsZ md ops z i = true)
    (hs : Region.noSelect ops = true) (hf : Region.free md ops listed i = true) (hr : (Region.ready md ops listed).contains i = true)
    (hQ : ∀ c a w, Q (.panic c) (a.put oi.dst v) w → Q (.panic c) a w) (hw : Region.wanted oi (yielded ops tmps) = true) (hy : ∀ w, S w → (execOp (Act.eval { tmps := tmps, defers := df }) oi).run P w = .ok (.value v) w) (hS : S w)
    (h : wpAnyE P md ops Q S z fuel (listed.setIfInBounds i true) { tmps := tmps.setIfInBounds t v, defers := df } w) : wpAnyE P md ops Q S z (fuel + 1) listed { tmps := tmps, defers := df } w := by
  refine wpAnyE_take hi hz hs hf hr hQ (.inl ⟨hw, hy⟩) hS ?_
  rw [hd]; exact h
/-- One operation that may come up alone. -/
theorem one_atE {i : Nat} {o : Oper} {fuel : Nat} {listed : Array Bool} {a : Act} {w : World} (hr : Region.ready md ops listed = [i]) (ho : ops[i]? = some o) (hw : Region.wanted o (yielded ops a.tmps) = true)
    (h : o.wp P a w (fun a' w' => (i ≠ z → S w') ∧ wpAnyE P md ops Q S z fuel (listed.setIfInBounds i true) a' w') Q) : wpAnyE P md ops Q S z (fuel + 1) listed a w := by
  refine ⟨fun e => (by rw [hr] at e; cases e), fun j hj => ?_⟩
  rw [hr, List.mem_singleton] at hj
  subst hj
  unfold wpOp
  simp only [ho, hw, if_true]
  exact .inl h
theorem one_callE {i : Nat} {o : Oper} {fuel : Nat} {listed : Array Bool} {tmps : Array Value} {df : List Deferred} {w w0 : World} (t : Tmp) (f : FuncId) (args : Array Value) (hr : Region.ready md ops listed = [i]) (ho : ops[i]? = some o) (hd : o.dst = some t) (hw : Region.wanted o (yielded ops tmps) = true)
    (hrun : (execOp (Act.eval { tmps := tmps, defers := df }) o).run P w = .ok (.enter f args) w0)
    (h : Calls P f args w0 fun e w' => ∃ v, e = .returned v ∧ S w' ∧ wpAnyE P md ops Q S z fuel (listed.setIfInBounds i true) { tmps := tmps.setIfInBounds t v, defers := df } w') : wpAnyE P md ops Q S z (fuel + 1) listed { tmps := tmps, defers := df } w := by
  refine one_atE hr ho hw ?_
  unfold Oper.wp
  rw [hrun, Oper.upon_enter]
  refine h.mono ?_
  rintro e w' ⟨v, rfl, hS, h2⟩
  refine ⟨fun _ => hS, ?_⟩
  rw [hd]; exact h2
theorem one_valueE {i : Nat} {o : Oper} {fuel : Nat} {listed : Array Bool} {tmps : Array Value} {df : List Deferred} {w w' : World} {v : Value} (t : Tmp) (hr : Region.ready md ops listed = [i]) (ho : ops[i]? = some o) (hd : o.dst = some t) (hw : Region.wanted o (yielded ops tmps) = true)
    (hrun : (execOp (Act.eval { tmps := tmps, defers := df }) o).run P w = .ok (.value v) w') (hS : S w') (h : wpAnyE P md ops Q S z fuel (listed.setIfInBounds i true) { tmps := tmps.setIfInBounds t v, defers := df } w') : wpAnyE P md ops Q S z (fuel + 1) listed { tmps := tmps, defers := df } w := by
  refine one_atE hr ho hw ?_
  unfold Oper.wp
  rw [hrun, Oper.upon_value, hd]
  exact ⟨fun _ => hS, h⟩
/-- The last one: it has no value. -/
theorem last_skipE {o : Oper} {fuel : Nat} {listed : Array Bool} {a : Act} {w w' : World} (hr : Region.ready md ops listed = [z]) (ho : ops[z]? = some o) (hd : o.dst = none) (hw : Region.wanted o (yielded ops a.tmps) = true)
    (hrun : (execOp a.eval o).run P w = .ok .skip w') (hend : Region.ready md ops (listed.setIfInBounds z true) = []) (h : Q .normal a w') : wpAnyE P md ops Q S z (fuel + 1) listed a w := by
  refine one_atE hr ho hw ?_
  unfold Oper.wp
  rw [hrun]
  simp only [Oper.upon, hd]
  exact ⟨fun e => absurd rfl e, wpAnyE_done hend h _⟩
end
end Go.Proofs.YtllmdfkiogmofaaGreatDoor

/- Cut: what the seat's translation lacks is left out. -/
/- The builder in memory: its states, what its two maps know. -/
namespace Go.Proofs.YtllmdfkiogmofaaGreatDoor
open Go.RowKit Nums Fm
set_option maxRecDepth 100000

def cellsA (a : Arc) : List Value := [.int .i32 a.label, .int .i64 a.out, .int .i64 a.to]
theorem cellsA_ok (a : Arc) : Cells 3 (cellsA a) := ⟨rfl, by simp [cellsA, Value.oneCell']⟩
def OkArc (a : Arc) : Prop := Fits32 a.label ∧ Fits64 a.out ∧ Fits64 a.to
/-- A row of arcs. -/
def AOwn (B : Nat) (w : World) (v : Value) (l : List Arc) : Prop := GOwn 63 3 B w v (l.map cellsA)
/-- What is known of lists of arcs: number n is the list D[n]. -/
structure LInv (m : List (LK × Nat)) (D : List (List Arc)) : Prop where
  zero : D[0]? = some []
  len : D.length = m.length + 1
  row : ∀ (i : Nat) (x : LK) (n : Nat), m[i]? = some (x, n) → n = i + 1 ∧ ∃ p, D[x.1]? = some p ∧ D[n]? = some (p ++ [x.2])
  nd : D.Nodup
theorem nodup_at {α : Type} {l : List α} (h : l.Nodup) {i j : Nat} {x : α} (hi : l[i]? = some x) (hj : l[j]? = some x) : i = j := by
  obtain ⟨h1, e1⟩ := List.getElem?_eq_some_iff.1 hi
  obtain ⟨h2, e2⟩ := List.getElem?_eq_some_iff.1 hj
  have hp := List.pairwise_iff_getElem.1 h
  rcases Nat.lt_trichotomy i j with h3 | h3 | h3
  · exact absurd (e1.trans e2.symm) (hp i j h1 h2 h3)
  · exact h3
  · exact absurd (e2.trans e1.symm) (hp j i h2 h1 h3)
theorem nodup_snoc {α : Type} {l : List α} {x : α} (h : l.Nodup) (hx : x ∉ l) : (l ++ [x]).Nodup := by
  rw [List.nodup_append]
  exact ⟨h, by simp, fun a ha b hb => by rw [List.mem_singleton.1 hb]; exact fun e => hx (e ▸ ha)⟩
theorem LInv.found {m : List (LK × Nat)} {D : List (List Arc)} (h : LInv m D) {n k : Nat} {a : Arc} {p : List Arc} (hm : ((n, a), k) ∈ m) (hn : D[n]? = some p) : D[k]? = some (p ++ [a]) := by
  obtain ⟨i, hi⟩ := List.mem_iff_getElem?.1 hm
  obtain ⟨_, p', h1, h2⟩ := h.row i _ _ hi
  rw [hn] at h1
  cases h1
  exact h2
theorem LInv.add {m : List (LK × Nat)} {D : List (List Arc)} (h : LInv m D) {n : Nat} {a : Arc} {p : List Arc} (hnew : ∀ k, ((n, a), k) ∉ m) (hn : D[n]? = some p) : LInv (m ++ [((n, a), m.length + 1)]) (D ++ [p ++ [a]]) ∧ (D ++ [p ++ [a]])[m.length + 1]? = some (p ++ [a]) := by
  have hlen := h.len
  have hlast : (D ++ [p ++ [a]])[m.length + 1]? = some (p ++ [a]) := by rw [List.getElem?_append_right (by omega), hlen]; simp
  have hpre : ∀ {i : Nat} {q : List Arc}, D[i]? = some q → (D ++ [p ++ [a]])[i]? = some q := fun {i q} hi => by
    rw [List.getElem?_append_left (List.getElem?_eq_some_iff.1 hi).1]; exact hi
  refine ⟨⟨hpre h.zero, by simp [hlen], fun i x k hi => ?_, nodup_snoc h.nd fun hmem => ?_⟩, hlast⟩
  · by_cases hil : i < m.length
    · rw [List.getElem?_append_left hil] at hi
      obtain ⟨h1, q, h2, h3⟩ := h.row i x k hi
      exact ⟨h1, q, hpre h2, hpre h3⟩
    · rw [List.getElem?_append_right (by omega)] at hi
      cases hi0 : i - m.length with
      | zero =>
        rw [hi0] at hi
        simp only [List.getElem?_cons_zero, Option.some.injEq, Prod.mk.injEq] at hi
        obtain ⟨rfl, rfl⟩ := hi
        exact ⟨by omega, p, hpre hn, hlast⟩
      | succ j => rw [hi0] at hi; simp at hi
  · obtain ⟨i, hi⟩ := List.mem_iff_getElem?.1 hmem
    have hil := (List.getElem?_eq_some_iff.1 hi).1
    cases i with
    | zero =>
      rw [h.zero] at hi
      simp at hi
    | succ j =>
      obtain ⟨⟨x, k⟩, hx⟩ : ∃ xk, m[j]? = some xk := ⟨m[j]'(by omega), List.getElem?_eq_getElem _⟩
      obtain ⟨rfl, q, h2, h3⟩ := h.row j x k hx
      rw [hi] at h3
      simp only [Option.some.injEq] at h3
      have h4 := List.append_inj' h3 rfl
      have e1 : x.2 = a := by have := h4.2; simp at this; exact this.symm
      rw [← h4.1] at h2
      have e2 : x.1 = n := nodup_at h.nd h2 hn
      have ex : x = (n, a) := Prod.ext e2 e1
      exact hnew (j + 1) (ex ▸ List.mem_of_getElem? hx)
/-- What is known of states. -/
structure NInv (m : List (SK × Nat)) (D : List (List Arc)) (b : List St) : Prop where
  len : m.length = b.length
  row : ∀ (i : Nat) (x : SK) (n : Nat), m[i]? = some (x, n) → n = i ∧ ∃ s, b[i]? = some s ∧ s.final = x.1 ∧ s.out = x.2.1 ∧ D[x.2.2]? = some s.arcs
  nd : b.Nodup
theorem NInv.more {m : List (SK × Nat)} {D D' : List (List Arc)} {b : List St} (h : NInv m D b) (hp : D <+: D') : NInv m D' b := by
  obtain ⟨t, rfl⟩ := hp
  refine ⟨h.len, fun i x n hi => ?_, h.nd⟩
  obtain ⟨h1, s, h2, h3, h4, h5⟩ := h.row i x n hi
  exact ⟨h1, s, h2, h3, h4, by rw [List.getElem?_append_left (List.getElem?_eq_some_iff.1 h5).1]; exact h5⟩
theorem NInv.found {m : List (SK × Nat)} {D : List (List Arc)} {b : List St} (h : NInv m D b) {s : St} {ln k : Nat} (hm : ((s.final, s.out, ln), k) ∈ m) (hl : D[ln]? = some s.arcs) : numSt b s = (b, k) ∧ k < b.length := by
  obtain ⟨i, hi⟩ := List.mem_iff_getElem?.1 hm
  obtain ⟨rfl, s', h2, h3, h4, h5⟩ := h.row i _ _ hi
  rw [hl] at h5
  have e : s' = s := by
    cases s; cases s'
    simp only [Option.some.injEq] at h3 h4 h5
    simp only [St.mk.injEq]
    exact ⟨h3, h4, h5.symm⟩
  subst e
  have hmem : s' ∈ b := List.mem_of_getElem? h2
  have hidx := List.idxOf_lt_length_of_mem hmem
  have : b.idxOf s' = k := nodup_at h.nd (by rw [List.getElem?_eq_getElem hidx, List.getElem_idxOf]) h2
  rw [numSt, if_pos hmem, this]
  exact ⟨rfl, (List.getElem?_eq_some_iff.1 h2).1⟩
theorem NInv.add {m : List (SK × Nat)} {D : List (List Arc)} {b : List St} (h : NInv m D b) (hD : D.Nodup) {s : St} {ln : Nat} (hnew : ∀ k, ((s.final, s.out, ln), k) ∉ m) (hl : D[ln]? = some s.arcs) : numSt b s = (b ++ [s], b.length) ∧ NInv (m ++ [((s.final, s.out, ln), b.length)]) D (b ++ [s]) := by
  have hmem : s ∉ b := fun hmem => by
    obtain ⟨i, hi⟩ := List.mem_iff_getElem?.1 hmem
    have hil := (List.getElem?_eq_some_iff.1 hi).1
    have hlen := h.len
    obtain ⟨⟨x, k⟩, hx⟩ : ∃ xk, m[i]? = some xk := ⟨m[i]'(by omega), List.getElem?_eq_getElem _⟩
    obtain ⟨_, s', h2, h3, h4, h5⟩ := h.row i x k hx
    rw [hi] at h2
    cases h2
    have e := nodup_at hD h5 hl
    have ex : x = (s.final, s.out, ln) := by rw [h3, h4, ← e]
    exact hnew k (ex ▸ List.mem_of_getElem? hx)
  refine ⟨by rw [numSt, if_neg hmem], by simp [h.len], fun i x n hi => ?_, nodup_snoc h.nd hmem⟩
  by_cases hil : i < m.length
  · rw [List.getElem?_append_left hil] at hi
    obtain ⟨h1, s', h2, h3⟩ := h.row i x n hi
    exact ⟨h1, s', by rw [List.getElem?_append_left (List.getElem?_eq_some_iff.1 h2).1]; exact h2, h3⟩
  · rw [List.getElem?_append_right (by omega)] at hi
    have hlen := h.len
    cases hi0 : i - m.length with
    | zero =>
      rw [hi0] at hi
      simp only [List.getElem?_cons_zero, Option.some.injEq, Prod.mk.injEq] at hi
      obtain ⟨rfl, rfl⟩ := hi
      refine ⟨by omega, s, ?_, rfl, rfl, hl⟩
      rw [List.getElem?_append_right (by omega), show i - b.length = 0 by omega]
      rfl
    | succ j => rw [hi0] at hi; simp at hi

/-- Only blocks of F have changed, of those that were there. -/
structure Upd (F : Nat → Prop) (w w' : World) : Prop where
  os : w'.os = w.os
  tape : w'.tape = w.tape
  output : w'.output = w.output
  size : w.heap.size ≤ w'.heap.size
  block : ∀ k, k < w.heap.size → ¬ F k → w'.heap[k]? = w.heap[k]?
theorem Upd.refl (F : Nat → Prop) (w : World) : Upd F w w := ⟨rfl, rfl, rfl, Nat.le_refl _, fun _ _ _ => rfl⟩
theorem Upd.trans {F G : Nat → Prop} {a b c : World} (h1 : Upd F a b) (h2 : Upd G b c) (hG : ∀ k, k < a.heap.size → G k → F k) : Upd F a c :=
  ⟨h2.os.trans h1.os, h2.tape.trans h1.tape, h2.output.trans h1.output, Nat.le_trans h1.size h2.size, fun k hk hF => (h2.block k (Nat.lt_of_lt_of_le hk h1.size) (fun g => hF (hG k hk g))).trans (h1.block k hk hF)⟩
theorem Upd.of_below {F : Nat → Prop} {w w' : World} (h : Below w.heap.size w w') : Upd F w w' := ⟨h.os, h.tape, h.output, h.size, fun k hk _ => h.block k hk⟩
theorem Upd.mono {F G : Nat → Prop} {w w' : World} (h : Upd F w w') (hG : ∀ k, F k → G k) : Upd G w w' := ⟨h.os, h.tape, h.output, h.size, fun k hk hF => h.block k hk (fun f => hF (hG k f))⟩
theorem Upd.below {F : Nat → Prop} {w w' : World} (h : Upd F w w') {E : Nat} (hE : E ≤ w.heap.size) (hF : ∀ k, F k → E ≤ k) : Below E w w' :=
  ⟨h.os, h.tape, h.output, h.size, fun k hk => h.block k (Nat.lt_of_lt_of_le hk hE) (fun f => by have := hF k f; omega)⟩
theorem Upd.alloc {F : Nat → Prop} {w w' : World} (h : Upd F w w') (o : Obj) : Upd F w (w'.alloc o) :=
  h.trans (G := F) (Upd.of_below ((Below.refl _ w').alloc (Nat.le_refl _) o)) (fun _ _ g => g)

/-- The builder's own blocks. -/
def fpB (g g1 g2 : Nat) (vs : Value) (k : Nat) : Prop := k = g ∨ k = g1 ∨ k = g2 ∨ vs.ownBlock = some k
section
variable {A : Nat → Prop} {E g g1 g2 : Nat} {w w' : World} {vs : Value} {b : List St} {m1 : List (SK × Nat)} {m2 : List (LK × Nat)} {D : List (List Arc)}
theorem AOwn.typed {B : Nat} {v : Value} {l : List Arc} (h : AOwn B w v l) (hs : ∀ (k : Nat) (cur : Array Value), w.heap[k]? = some (Obj.cells cur 63 (0, 0)) → w'.heap[k]? = w.heap[k]?) : AOwn B w' v l :=
  GOwn.same h fun g hg => by obtain ⟨_, cur, h1⟩ := GOwn.block h hg; exact hs g cur h1
end
theorem exec_upd {P : Program} (ρ : Operand → Value) (x y z : Operand) (t : TypeId) (dst : Option Tmp) (ty : TypeId) (pos : String) (af : Array Edge) (g : Option (Nat × Bool)) (w : World) :
    (execOp ρ ⟨dst, .mapUpdate t x y z, ty, pos, af, g⟩).run P w = ((Instr.mapUpdate t (ρ x) (ρ y) (ρ z)).run P w).andThen (fun _ w' => .ok .skip w') := by
  simp only [execOp, Sem.run_bind, Sem.run_pure]
end Go.Proofs.YtllmdfkiogmofaaGreatDoor
