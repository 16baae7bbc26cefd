/- Texts that were written apart, joined. -/
import Derived.Test.YtjhjejjnkpbphaaDoorHd
import Derived.Test.YtjhjejjnkpbphaaDoorWkN2
import Derived.Test.YtjhjejjnkpbphaaDoorHg
import Derived.Test.YtjhjejjnkpbphaaDoorHh
import Derived.Test.YtjhjejjnkpbphaaDoorHi
import Derived.Sort.QuietIn
import Derived.RangeFuncCalls
import Derived.BigRegionIn
import Derived.Laws.StructEq
/- A walk on a dictionary's machine; what is right can be built. -/
namespace Go.Proofs.YtjhjejjnkpbphaaDoor
open Go.RowKit Nums Fm Pk Pm
set_option maxRecDepth 100000

theorem fault_right : ∀ (l : List Pr) (p : Option Pr), faultF p l = 0 → rightFrom p l = true
  | [], _, _ => rfl
  | x :: r, p, h => by
    rw [faultF] at h
    by_cases h0 : oneF p x = 0
    · rw [if_pos h0] at h
      rw [rightFrom, fault_right r (some x) h, Bool.and_true]
      unfold oneF at h0
      split at h0
      · cases h0
      · rename_i c1
        split at h0
        · cases h0
        · rename_i c2
          split at h0
          · cases h0
          · rename_i c3
            unfold oneOk
            simp only [Bool.and_eq_true, decide_eq_true_eq]
            refine ⟨⟨by simpa using c1, by omega, by omega⟩, by simpa using c3⟩
    · rw [if_neg h0] at h; exact absurd h h0
theorem right_fault2 : ∀ (l : List Pr) (p : Option Pr), rightFrom p l = true → faultF p l = 0
  | [], _, _ => rfl
  | x :: r, p, h => by
    rw [rightFrom] at h
    simp only [Bool.and_eq_true] at h
    obtain ⟨h1, h2, h3⟩ := h
    unfold oneOk at h1
    simp only [Bool.and_eq_true, decide_eq_true_eq] at h1
    rw [faultF, one_ok h1.1 (by omega) (by omega) h2, if_pos rfl]
    exact right_fault2 r (some x) h3
/-- Just what is right is built. -/
theorem build_right (l : List Pr) : rightP l = decide (buildE l = 0) := by
  unfold rightP buildE
  by_cases h : l.length ≤ 4096
  · rw [decide_eq_true h, Bool.true_and, if_neg (by omega)]
    cases hr : rightFrom none l with
    | true => rw [right_fault2 l none hr]; rfl
    | false =>
      symm; apply decide_eq_false
      intro e
      rw [fault_right l none e] at hr; cases hr
  · rw [decide_eq_false h, Bool.false_and, if_pos (by omega)]
    symm; apply decide_eq_false; decide
theorem NewW_any (B : Nat) (w : World) (l : List Pr) (base : Int) (vs : Value) (b : List St) (hC : buildE l = 0) (hrow : StRow B w vs b) (hmach : machOf l = (base, b)) (hT : Tabs w) :
    Calls Tryd.prog 12 #[.agg #[.int .i64 base, vs]] w fun e w' => ∃ wb, e = .returned (.tuple #[.pointer (some ⟨wb, 0, none⟩), .bool true]) ∧ w.heap.size ≤ wb ∧ WkOn w' wb l ∧ Below w.heap.size w w' := by
  have hb2 : (machOf l).2 = b := by rw [hmach]
  have hb1 : (machOf l).1 = base := by rw [hmach]
  have hS := built_at hrow hC hb2
  have hr : rightB base (b.map ofSt) = true := by have := built_right hC; rw [hmach] at this; exact this
  have hfew : b.length ≤ 1048576 := by have := mach_few (l := l); rw [hmach] at this; simp only at this; omega
  obtain ⟨D, hI, hF, hM⟩ : ∃ D, Inv D b ∧ (∀ R ∈ D, R.length ≤ 4096) ∧ (l ≠ [] → Pk.MW l (machOf l).1 (machOf l).2 D) := by
    by_cases hl : l = []
    · subst hl
      have : b = [] := by rw [← hb2]; rfl
      subst this
      exact ⟨[], Inv.nil, fun R hR => (by cases hR), fun h => absurd rfl h⟩
    · obtain ⟨D, M⟩ := mach_walk hC hl
      exact ⟨D, by have := M.inv; rw [hb2] at this; exact this, M.rst.few, fun _ => M⟩
  have hsm : ∀ s ∈ b.map ofSt, s.arcs.length ≤ 1114112 := fun s hs => by
    obtain ⟨i, hi⟩ := List.mem_iff_getElem?.1 hs
    have hf := form_get _ 0 i s (right_facts hr).2.2 hi
    exact (form_facts hf).2.2
  refine (New_yes w.heap.size w base b D hI hF vs hS (Nat.le_refl _) hT hfew hr hsm).mono ?_
  rintro e w' ⟨wb, rfl, h1, h2, h3⟩
  exact ⟨wb, rfl, h1, ⟨hC, hT.below h3, D, hM, by rw [hb2]; exact hI, by rw [hb1, hb2]; exact h2⟩, h3⟩
end Go.Proofs.YtjhjejjnkpbphaaDoor

/- A region that calls nothing and defers nothing, inside a round of a range over a function. -/
namespace Go.Proofs.YtjhjejjnkpbphaaDoor
open Go.BigFrame
def noDefer (l : List Oper) : Bool := l.all fun o => match o.op with | .defer _ => false | _ => true
theorem wpIn_toRound {F : Fence} {n : Nat} {P : Program} {o : Oper} {a : Act} {w : World} {K : Act → World → Prop} {Q : Exit → Act → World → Prop} (lp : Nat) (hro : F.round = none) (hd : ∀ c, o.op ≠ .defer c) (h : o.wpIn F n P a w K Q) : o.wpIn (F.inRound lp) n P a w K Q := by
  unfold Oper.wpIn at *
  refine ⟨h.1, ?_⟩
  have h2 := h.2
  rw [hro, Oper.semAt_none] at h2
  rw [Oper.semAt_eq _ _ _ hd]
  generalize (execOp a.eval o).run P w = r at *
  cases r with
  | ok x w' => cases x <;> exact h2
  | halt x w' => cases x <;> exact h2
theorem wpAnyIn_toRound {F : Fence} {n : Nat} {P : Program} {md : Region.Mode} {ops : Array Oper} {Q : Exit → Act → World → Prop} (lp : Nat) (hro : F.round = none) (hd : noDefer ops.toList = true) : ∀ (fuel : Nat) (listed : Array Bool) (a : Act) (w : World), wpAnyIn F n P md ops Q fuel listed a w → wpAnyIn (F.inRound lp) n P md ops Q fuel listed a w
  | 0, _, _, _, h => h
  | fuel + 1, listed, a, w, h => ⟨h.1, fun i hi => by
      refine wpOpIn_mono (fun a' w' h' => wpAnyIn_toRound lp hro hd fuel _ a' w' h') ?_
      have h2 := h.2 i hi
      unfold wpOpIn at *
      cases ho : ops[i]? with
      | none => simp only [ho] at h2 ⊢; exact h2
      | some o =>
        simp only [ho] at h2 ⊢
        split
        · rename_i hw
          rw [if_pos hw] at h2
          refine wpIn_toRound lp hro (fun c hc => ?_) h2
          have := List.all_eq_true.1 hd o (by rw [← Array.mem_def]; exact Array.mem_of_getElem? ho)
          rw [hc] at this
          cases this
        · rename_i hw
          rw [if_neg hw] at h2
          exact h2⟩
theorem wpIn_region_quiet_round {n : Nat} {P : Program} {id : Nat} {Q : Exit → Act → World → Prop} {a : Act} {w : World} {l : List Oper} {lp : Nat} (hm : P.follows .mixedOrders = true) (hB : Region.lexB .any l.toArray = true) (hd : noDefer l = true)
    (h : wpQuietIn Fence.wide n P l.toArray (fun w' => ∃ n, w' = w.drewN n) (fun a' => ∀ w', (∃ n, w' = w.drewN n) → Q .normal a' w') l a) : (Code.region id l.toArray true).wpIn (Fence.wide.inRound lp) n P Q a w := by
  simp only [Region.lexB, Bool.and_eq_true] at hB
  refine wpIn_region_any hm (wpAnyIn_toRound lp rfl (by simpa using hd) _ _ _ _ (wpAnyIn_of_quiet (C := fun w' => ∃ n, w' = w.drewN n) (Q := fun a' => ∀ w', (∃ n, w' = w.drewN n) → Q .normal a' w') rfl (fun _ w' hw' h => h w' hw') _ _ _ _ ⟨1, rfl⟩ ?_))
  have := wpAnyQIn_lex (F := Fence.wide) (n := n) (C := fun w' => ∃ n, w' = w.drewN n) (md := .any) hB.1 l.toArray.toList 0 (Array.replicate l.toArray.size false) a (by simp) (by simpa using hB.2) (by simpa using h)
  simpa using this
end Go.Proofs.YtjhjejjnkpbphaaDoor

/- AbecedaryWords: the law's own walk. -/
namespace Go.Proofs.YtjhjejjnkpbphaaDoor
open Go.RowKit Go.Shelf Nums Fm Pk Pm
set_option maxRecDepth 100000
attribute [local go_sem] Oper.semAt_some

/-- The boxes of the list and of the answer. -/
structure AB (w W : World) (lb rb : Nat) (v : Value) : Prop where
  bel : Below w.heap.size w W
  lbx : W.heap[lb]? = some (.cells #[v] 31)
  rbx : W.heap[rb]? = some (.cells #[.bool false] 4)
theorem AB.below {w W W' : World} {lb rb : Nat} {v : Value} (h : AB w W lb rb v) (hb : Below W.heap.size W W') : AB w W' lb rb v :=
  ⟨h.bel.trans (hb.mono h.bel.size), (hb.block lb (Array.getElem?_eq_some_iff.1 h.lbx).1).trans h.lbx, (hb.block rb (Array.getElem?_eq_some_iff.1 h.rbx).1).trans h.rbx⟩
theorem AB.facts {w W : World} {lb rb : Nat} {v : Value} (h : AB w W lb rb v) : W.cell? ⟨lb, 0, none⟩ = some v ∧ W.cell? ⟨rb, 0, none⟩ = some (.bool false) ∧ W.frozen? ⟨rb, 0, none⟩ = false :=
  ⟨by simp [World.cell?, h.lbx], by simp [World.cell?, h.rbx], by simp [World.frozen?, h.rbx]⟩

theorem wp_calm {c : Code} {Q : Exit → Act → World → Prop} {a : Act} {w : World} (h : c.wp Tryd.prog (fun e a w => (∀ x, e ≠ .panic x) ∧ Q e a w) a w) : c.wp Tryd.prog Q a w := wp_mono h (fun _ _ _ g => g.2)
theorem aw_results {tmps : Array Value} {w : World} {rb : Nat} {a : Value} (h2 : tmps.getD 2 undef = .pointer (some ⟨rb, 0, none⟩)) (c0 : w.cell? ⟨rb, 0, none⟩ = some a) : (results Tryd.f5 tmps).run Tryd.prog w = .ok a w := by
  have h2' : tmps[2]?.getD undef = .pointer (some ⟨rb, 0, none⟩) := by simpa using h2
  simp [results, Tryd.results5, go_sem, h2', c0]
theorem All_is (wb : Nat) (w : World) :
    Calls Tryd.prog 16 #[.pointer (some ⟨wb, 0, none⟩)] w fun e w' => e = .returned (.func (.func 66) #[] #[.pointer (some ⟨w.heap.size, 0, none⟩), .pointer (some ⟨w.heap.size + 1, 0, none⟩)]) ∧ Below w.heap.size w w' ∧ w'.cell? ⟨w.heap.size, 0, none⟩ = some (.pointer (some ⟨wb, 0, none⟩)) ∧ w'.cell? ⟨w.heap.size + 1, 0, none⟩ = some (.int .i64 0) ∧ w'.heap.size = w.heap.size + 2 := by
  go_enter Tryd.func16, Tryd.ntmps16
  go_wp2_with (go_at_call 35; refine (from_any wb 0 w).mono ?_; rintro e w1 ⟨rfl, t1, t2, hw1⟩)
  go_ret
  exact ⟨rfl, ((Below.refl _ w).alloc (Nat.le_refl _) _).alloc (by simp) _, by simp, by simp, by simp⟩
/-- What the loop's body knows. -/
structure AI9 (w8 : World) (ib hi : Nat) (l : List Pr) (A : Nat → Prop) (pre : List Pr) (W : World) : Prop where
  pfx : pre <+: l
  bel : Below w8.heap.size w8 W
  own : A ib
  sub : ∀ k, A k → k = ib ∨ hi ≤ k
  cel : W.heap[ib]? = some (.cells #[.int .i64 (pre.length : Int)] 3)
theorem AI9.minds (w8 : World) (ib hi : Nat) (l : List Pr) (h : w8.heap.size ≤ hi) : Minds hi (AI9 w8 ib hi l) := fun A pre W W' h1 hu =>
  ⟨h1.pfx, ⟨hu.os.trans h1.bel.os, hu.tape.trans h1.bel.tape, hu.output.trans h1.bel.output, Nat.le_trans h1.bel.size hu.size, fun k hk => (hu.block k (Nat.lt_of_lt_of_le hk h1.bel.size) (fun g => by omega)).trans (h1.bel.block k hk)⟩, h1.own, h1.sub, (hu.block ib (Array.getElem?_eq_some_iff.1 h1.cel).1 (fun g => g.1 h1.own)).trans h1.cel⟩
def AX9 (l : List Pr) (c : Code) (_ : Nat → Prop) (q : List Pr) (_ : World) : Prop := c = .ret ∧ ¬ q <+: l
theorem AX9.minds (l : List Pr) (B : Nat) (c : Code) : Minds B (AX9 l c) := fun _ _ _ _ h _ => h
theorem pre_snoc {l pre : List Pr} {x : Pr} (h : pre <+: l) (hx : l[pre.length]? = some x) : pre ++ [x] <+: l := by
  obtain ⟨t, rfl⟩ := h
  rw [List.getElem?_append_right (Nat.le_refl _), Nat.sub_self] at hx
  cases t with
  | nil => simp at hx
  | cons y t =>
    simp at hx
    subst hx
    exact ⟨t, by simp⟩
theorem pre_not {l pre : List Pr} {x : Pr} (hx : ¬ l[pre.length]? = some x) : ¬ pre ++ [x] <+: l := fun ⟨t, e⟩ => hx (by rw [← e]; simp)
theorem upd_same {A : Nat → Prop} {W : World} {rb : Nat} {T : TypeId} (h : W.heap[rb]? = some (.cells #[.bool false] T)) : Upd A W (W.setCell ⟨rb, 0, none⟩ (.bool false)) :=
  ⟨rfl, rfl, rfl, by simp [World.setCell], fun k _ _ => by
    by_cases e : k = rb
    · subst e
      simp only [World.setCell, Array.getElem?_modify, h]
      simp
    · exact Below.heap_setCell _ _ _ _ e⟩
theorem upd_cell {A : Nat → Prop} {W : World} {ib : Nat} (h : A ib) (u : Value) : Upd A W (W.setCell ⟨ib, 0, none⟩ u) :=
  ⟨rfl, rfl, rfl, by simp [World.setCell], fun k _ hk => Below.heap_setCell _ _ _ _ (fun e => hk (by rw [e]; exact h))⟩
theorem upd_same' {A : Nat → Prop} {W : World} {rb q : Nat} {T : TypeId} (h : W.heap[rb]? = some (.cells #[.bool false] T)) : Upd A W ((W.drewN q).setCell ⟨rb, 0, none⟩ (.bool false)) :=
  have := upd_same (A := A) (W := W.drewN q) h
  ⟨this.os, this.tape, this.output, this.size, this.block⟩
theorem upd_cell' {A : Nat → Prop} {W : World} {ib q : Nat} (h : A ib) (u : Value) : Upd A W ((W.drewN q).setCell ⟨ib, 0, none⟩ u) :=
  have := upd_cell (A := A) (W := W.drewN q) h u
  ⟨this.os, this.tape, this.output, this.size, this.block⟩
theorem AI9.step {w8 : World} {ib hi : Nat} {l : List Pr} {A : Nat → Prop} {pre : List Pr} {W : World} (h : AI9 w8 ib hi l A pre W) (hib : w8.heap.size ≤ ib) {x : Pr} (hx : pre ++ [x] <+: l) (q : Nat) : AI9 w8 ib hi l A (pre ++ [x]) ((W.drewN q).setCell ⟨ib, 0, none⟩ (.int .i64 ((pre.length : Int) + 1))) := by
  have hc : (W.drewN q).heap[ib]? = some (.cells #[.int .i64 (pre.length : Int)] 3) := h.cel
  refine ⟨hx, ⟨h.bel.os, h.bel.tape, h.bel.output, by have := h.bel.size; simpa [World.setCell] using this, fun k hk => (Below.heap_setCell (W.drewN q) _ _ _ (by show k ≠ ib; omega)).trans (h.bel.block k hk)⟩, h.own, h.sub, ?_⟩
  simp only [World.setCell, Array.getElem?_modify, hc]
  simp
theorem aw_end {w V : World} {lb rb db : Nat} {v : Value} (h : AB w V lb rb v) (hrb : w.heap.size ≤ rb) (hdb : w.heap.size ≤ db) (hne : db ≠ rb) : ((V.setCell ⟨rb, 0, none⟩ (.bool true)).putObj db (.deferred none)).cell? ⟨rb, 0, none⟩ = some (.bool true) ∧ Below w.heap.size w ((V.setCell ⟨rb, 0, none⟩ (.bool true)).putObj db (.deferred none)) := by
  have hb : Below w.heap.size w (V.setCell ⟨rb, 0, none⟩ (.bool true)) := h.bel.setCell (by show w.heap.size ≤ rb; exact hrb) _
  have hu : Upd (fun k => k = db) (V.setCell ⟨rb, 0, none⟩ (.bool true)) ((V.setCell ⟨rb, 0, none⟩ (.bool true)).putObj db (.deferred none)) := Upd.put _ _
  have hc : (V.setCell ⟨rb, 0, none⟩ (.bool true)).heap[rb]? = some (.cells #[.bool true] 4) := by
    simp only [World.setCell, Array.getElem?_modify, h.rbx]
    simp
  refine ⟨?_, ⟨hu.os.trans hb.os, hu.tape.trans hb.tape, hu.output.trans hb.output, Nat.le_trans hb.size hu.size, fun k hk => (hu.block k (Nat.lt_of_lt_of_le hk hb.size) (fun e => by have e' : k = db := e; omega)).trans (hb.block k hk)⟩⟩
  have := (hu.block rb (Array.getElem?_eq_some_iff.1 hc).1 (fun e => hne e.symm)).trans hc
  simp [World.cell?, this]
set_option maxHeartbeats 4000000 in
theorem words_walk (v : Value) (w : World) (ht : Tabs w) (l : List Pr) (h : PRow w v l) (hs : Sm l) (hl : l.length ≤ 9223372036854775807) :
    Calls Tryd.prog 5 #[v] w fun e w' => e = .returned (.bool true) ∧ Below w.heap.size w w' := by
  obtain ⟨ad, cap, rfl⟩ := h.form
  obtain ⟨n, hn⟩ : ∃ n, l.length = n := ⟨_, rfl⟩
  have HN : Hid (l.length = n) := hn
  have HR : Hid (PRow w (.slice ad n cap) l) := by have := h; rw [hn] at this; exact this
  have HSM : Hid (Sm l) := hs
  have HT : Hid (Tabs w) := ht
  rw [hn] at hl ⊢
  obtain ⟨lb, hlb⟩ : ∃ lb, lb = w.heap.size := ⟨_, rfl⟩
  obtain ⟨rb, hrb⟩ : ∃ rb, rb = lb + 1 := ⟨_, rfl⟩
  obtain ⟨W0, hW0⟩ : ∃ W0, W0 = (w.alloc (.cells #[.slice ad n cap] 31)).alloc (.cells #[.bool false] 4) := ⟨_, rfl⟩
  have HAB : Hid (AB w W0 lb rb (.slice ad n cap)) := by
    refine ⟨by rw [hW0]; exact ((Below.refl _ w).alloc (Nat.le_refl _) _).alloc (by simp) _, ?_, ?_⟩
    · rw [hW0, hlb]; exact (Below.heap_alloc _ _ _ (by simp)).trans (alloc_newP w _)
    · rw [hW0, hrb, hlb]; have := alloc_newP (w.alloc (.cells #[.slice ad n cap] 31)) (.cells #[.bool false] 4); simpa using this
  have HLO : Hid (w.heap.size ≤ lb ∧ w.heap.size ≤ rb ∧ lb < W0.heap.size ∧ rb < W0.heap.size) := ⟨by omega, by omega, (Array.getElem?_eq_some_iff.1 HAB.out.lbx).1, (Array.getElem?_eq_some_iff.1 HAB.out.rbx).1⟩
  obtain ⟨C, hC⟩ : ∃ C, buildE l = C := ⟨_, rfl⟩
  have HC : Hid (buildE l = C) := hC
  have HBD : Hid (Calls Tryd.prog 17 #[.slice ad n cap] W0 fun e w' => ∃ base vs b, e = .returned (.tuple #[.agg #[.int .i64 base, vs], .int .i64 C]) ∧ BuildSays W0 w' l base vs b) := by
    have := Build_any W0 (.slice ad n cap) l (HR.out.below HAB.out.bel) (by rw [HN.out]; exact hl) hs (ht.below HAB.out.bel)
    rw [hC] at this
    exact this
  have HRR : Hid (∀ W, Below w.heap.size w W → Calls Tryd.prog 9 #[.slice ad n cap] W fun e w' => e = .returned (.bool (decide (C = 0))) ∧ Below W.heap.size W w') := fun W hW => by
    have := refRight_any W (.slice ad n cap) l (HR.out.below hW) (by rw [HN.out]; exact hl) HSM.out
    rw [build_right, HC.out] at this
    exact this
  obtain ⟨R, hRp⟩ : ∃ R : Ending → World → Prop, (fun e w' => e = Ending.returned (.bool true) ∧ Below w.heap.size w w') = R := ⟨_, rfl⟩
  have HPO : Hid (∀ w', Below w.heap.size w w' → R (.returned (.bool true)) w') := fun w' hw => by rw [← hRp]; exact ⟨rfl, hw⟩
  rw [hRp]
  clear h hs ht hn hC hRp
  refine (callsIn_wide (n := 0)).1 (callsIn_of_wp_marks Tryd.func5 rfl trivial ?_ rfl)
  refine wpIn_wide.2 ?_
  simp only [Tryd.ntmps5, List.size_toArray, List.length_cons, List.length_nil, Nat.reduceAdd, Nat.reduceSub, Array.replicate_succ, Array.replicate_zero, List.push_toArray, List.append_toArray, List.nil_append, List.cons_append]
  go_upto_region 1 with fail
  rw [← hW0, ← hlb, ← hrb]
  clear hW0 hlb hrb
  obtain ⟨q0, q1, q2⟩ := HAB.out.facts
  go_upto_region 2 with (go_at_call 17; refine HBD.out.mono ?_; rintro e w1 ⟨base, vs, b, rfl, hS⟩; obtain ⟨sd, nb, sc, hvs, hnb⟩ := StRow.form hS.row; subst hvs; have HS : Hid (BuildSays W0 w1 l base (.slice sd nb sc) b) := hS; clear hS)
  have HBB := BB.mk' HS.out
  obtain ⟨mb, hmb⟩ : ∃ mb, mb = w1.heap.size := ⟨_, rfl⟩
  obtain ⟨W2, hW2⟩ : ∃ W2, W2 = w1.alloc (.cells #[.int .i64 base, .slice sd nb sc] 24) := ⟨_, rfl⟩
  rw [← hmb, ← hW2] at HBB
  have HB2 : Hid (BB W0 W2 l mb base (.slice sd nb sc) b) := HBB
  have HA2 : Hid (AB w W2 lb rb (.slice ad n cap)) := HAB.out.below HB2.out.bel
  rw [← hmb, ← hW2]
  clear hmb hW2 HBB HS q0 q1 q2
  obtain ⟨q0, q1, q2⟩ := HA2.out.facts
  by_cases hC0 : C = 0
  · subst hC0
    rw [decide_eq_true (rfl : (0 : Int) = 0)] at HRR
    go_upto_region 4 with (go_at_call 9; refine (HRR.out _ HA2.out.bel).mono ?_; rintro e w3 ⟨rfl, hb3⟩)
    have HA3 : Hid (AB w w3 lb rb (.slice ad n cap)) := HA2.out.below hb3
    have HB3 : Hid (BB W0 w3 l mb base (.slice sd nb sc) b) := HB2.out.below hb3
    have HT0 : Hid (Tabs W0) := HT.out.below HAB.out.bel
    clear q0 q1 q2 hb3
    obtain ⟨p0, p1⟩ := HB3.out.facts
    go_upto_region 5 with (go_at_call 7; refine (HB3.out.pack HC.out HT0.out).mono ?_; rintro e w4 ⟨ad4, n4, cap4, rfl, _, _, _, hp4⟩)
    have HP4 : Hid (BP W0 w4 l mb base (.slice sd nb sc) b (.slice ad4 n4 cap4)) := hp4
    clear p0 p1 hp4
    go_upto_region 6 with (go_at_call 18; refine (HP4.out.unpack HC.out HT0.out).mono ?_; rintro e w5 ⟨ad5, n5, cap5, rfl, hb5, hs5, hp5⟩)
    have HS5 : Hid (StRow w4.heap.size w5 (.slice ad5 n5 cap5) b) := hs5
    have HP5 : Hid (BP W0 w5 l mb base (.slice sd nb sc) b (.slice ad4 n4 cap4)) := hp5
    have HA5 : Hid (AB w w5 lb rb (.slice ad n cap)) := HAB.out.below HP5.out.bel
    clear hb5 hs5 hp5
    obtain ⟨xb, hxb⟩ : ∃ xb, xb = w5.heap.size := ⟨_, rfl⟩
    obtain ⟨W6, hW6⟩ : ∃ W6, W6 = w5.alloc (.cells #[.int .i64 base, .slice ad5 n5 cap5] 24) := ⟨_, rfl⟩
    have hbw6 : Below w5.heap.size w5 W6 := by rw [hW6]; exact (Below.refl _ w5).alloc (Nat.le_refl _) _
    have hx6 : W6.heap[xb]? = some (.cells #[.int .i64 base, .slice ad5 n5 cap5] 24) := by rw [hW6, hxb]; exact alloc_newP _ _
    have HA6 : Hid (AB w W6 lb rb (.slice ad n cap)) := HA5.out.below hbw6
    have HNW : Hid (Calls Tryd.prog 12 #[.agg #[.int .i64 base, .slice ad5 n5 cap5]] W6 fun e w' => ∃ wb, e = .returned (.tuple #[.pointer (some ⟨wb, 0, none⟩), .bool true]) ∧ W6.heap.size ≤ wb ∧ WkOn w' wb l ∧ Below W6.heap.size W6 w') := NewW_any w4.heap.size W6 l base _ b HC.out (HS5.out.below hbw6) HP5.out.eq (HT.out.below HA6.out.bel)
    have e0 : W6.cell? ⟨xb, 0, none⟩ = some (.int .i64 base) := by simp [World.cell?, hx6]
    have e1 : W6.cell? ⟨xb, 1, none⟩ = some (.slice ad5 n5 cap5) := by simp [World.cell?, hx6]
    rw [← hxb, ← hW6]
    clear hxb hW6 hx6 hbw6
    go_upto_region 7 with (go_at_call 12; refine HNW.out.mono ?_; rintro e w7 ⟨wb, rfl, hlo7, hon7, hb7⟩)
    have HON : Hid (WkOn w7 wb l) := hon7
    have HA7 : Hid (AB w w7 lb rb (.slice ad n cap)) := HA6.out.below hb7
    have hwb : W6.heap.size ≤ wb := hlo7
    clear hon7 hb7 e0 e1 hlo7
    have hS7 : AB w w7.drew lb rb (.slice ad n cap) := HA7.out.below (Below.refl _ w7).drew
    have HLN : Hid (Calls Tryd.prog 19 #[.pointer (some ⟨wb, 0, none⟩)] w7.drew fun e w' => e = .returned (.int .i64 (n : Int)) ∧ Below w7.drew.heap.size w7.drew w') := by
      have := LenW_any w7.drew wb l (HON.out.below (Below.refl _ w7).drew)
      rw [HN.out] at this
      exact this
    refine wp_calm ?_
    refine region_at (S := fun W => AB w W lb rb (.slice ad n cap)) 21 rfl mixedP hS7 (fun _ => ?_)
    refine take_at (i := 0) 38 rfl rfl (by kernel_rfl) (by kernel_rfl) (by kernel_rfl) (fun c _ _ h => absurd rfl (h.1 c)) (by rfl) (fun w hSw => by (have hSw2 := AB.facts hSw; clear hSw; go_simp; first | done | exact rfl)) (by assumption) ?_
    simp only [List.setIfInBounds_toArray, List.set_cons_zero, List.set_cons_succ]
    refine take_at (i := 1) 39 rfl rfl (by kernel_rfl) (by kernel_rfl) (by kernel_rfl) (fun c _ _ h => absurd rfl (h.1 c)) (by rfl) (fun w hSw => by (have hSw2 := AB.facts hSw; clear hSw; go_simp; first | done | exact rfl)) (by assumption) ?_
    simp only [List.setIfInBounds_toArray, List.set_cons_zero, List.set_cons_succ]
    refine take_at (i := 2) 40 rfl rfl (by kernel_rfl) (by kernel_rfl) (by kernel_rfl) (fun c _ _ h => absurd rfl (h.1 c)) (by rfl) (fun w hSw => by (have hSw2 := AB.facts hSw; clear hSw; go_simp; first | done | exact rfl)) (by assumption) ?_
    simp only [List.setIfInBounds_toArray, List.set_cons_zero, List.set_cons_succ]
    refine take_at (i := 3) 41 rfl rfl (by kernel_rfl) (by kernel_rfl) (by kernel_rfl) (fun c _ _ h => absurd rfl (h.1 c)) (by rfl) (fun w hSw => by (have hSw2 := AB.facts hSw; clear hSw; go_simp; first | done | exact rfl)) (by assumption) ?_
    simp only [List.setIfInBounds_toArray, List.set_cons_zero, List.set_cons_succ]
    refine take_at (i := 4) 42 rfl rfl (by kernel_rfl) (by kernel_rfl) (by kernel_rfl) (fun c _ _ h => absurd rfl (h.1 c)) (by rfl) (fun w hSw => by (have hSw2 := AB.facts hSw; clear hSw; go_simp; first | done | exact rfl)) (by assumption) ?_
    simp only [List.setIfInBounds_toArray, List.set_cons_zero, List.set_cons_succ]
    refine take_at (i := 5) 43 rfl rfl (by kernel_rfl) (by kernel_rfl) (by kernel_rfl) (fun c _ _ h => absurd rfl (h.1 c)) (by rfl) (fun w hSw => by (have hSw2 := AB.facts hSw; clear hSw; go_simp; first | done | exact rfl)) (by assumption) ?_
    simp only [List.setIfInBounds_toArray, List.set_cons_zero, List.set_cons_succ]
    refine take_at (i := 6) 44 rfl rfl (by kernel_rfl) (by kernel_rfl) (by kernel_rfl) (fun c _ _ h => absurd rfl (h.1 c)) (by rfl) (fun w hSw => by (have hSw2 := AB.facts hSw; clear hSw; go_simp; first | done | exact rfl)) (by assumption) ?_
    simp only [List.setIfInBounds_toArray, List.set_cons_zero, List.set_cons_succ]
    refine take_at (i := 7) 45 rfl rfl (by kernel_rfl) (by kernel_rfl) (by kernel_rfl) (fun c _ _ h => absurd rfl (h.1 c)) (by rfl) (fun w hSw => by (have hSw2 := AB.facts hSw; clear hSw; go_simp; first | done | exact rfl)) (by assumption) ?_
    simp only [List.setIfInBounds_toArray, List.set_cons_zero, List.set_cons_succ]
    refine take_at (i := 8) 46 rfl rfl (by kernel_rfl) (by kernel_rfl) (by kernel_rfl) (fun c _ _ h => absurd rfl (h.1 c)) (by rfl) (fun w hSw => by (have hSw2 := AB.facts hSw; clear hSw; go_simp; first | done | exact rfl)) (by assumption) ?_
    simp only [List.setIfInBounds_toArray, List.set_cons_zero, List.set_cons_succ]
    refine take_at (i := 9) 47 rfl rfl (by kernel_rfl) (by kernel_rfl) (by kernel_rfl) (fun c _ _ h => absurd rfl (h.1 c)) (by rfl) (fun w hSw => by (have hSw2 := AB.facts hSw; clear hSw; go_simp; first | done | exact rfl)) (by assumption) ?_
    simp only [List.setIfInBounds_toArray, List.set_cons_zero, List.set_cons_succ]
    refine take_at (i := 10) 48 rfl rfl (by kernel_rfl) (by kernel_rfl) (by kernel_rfl) (fun c _ _ h => absurd rfl (h.1 c)) (by rfl) (fun w hSw => by (have hSw2 := AB.facts hSw; clear hSw; go_simp; first | done | exact rfl)) (by assumption) ?_
    simp only [List.setIfInBounds_toArray, List.set_cons_zero, List.set_cons_succ]
    refine take_at (i := 11) 49 rfl rfl (by kernel_rfl) (by kernel_rfl) (by kernel_rfl) (fun c _ _ h => absurd rfl (h.1 c)) (by rfl) (fun w hSw => by (have hSw2 := AB.facts hSw; clear hSw; go_simp; first | done | exact rfl)) (by assumption) ?_
    simp only [List.setIfInBounds_toArray, List.set_cons_zero, List.set_cons_succ]
    refine take_at (i := 12) 50 rfl rfl (by kernel_rfl) (by kernel_rfl) (by kernel_rfl) (fun c _ _ h => absurd rfl (h.1 c)) (by rfl) (fun w hSw => by (have hSw2 := AB.facts hSw; clear hSw; go_simp; first | done | exact rfl)) (by assumption) ?_
    simp only [List.setIfInBounds_toArray, List.set_cons_zero, List.set_cons_succ]
    refine take_at (i := 13) 51 rfl rfl (by kernel_rfl) (by kernel_rfl) (by kernel_rfl) (fun c _ _ h => absurd rfl (h.1 c)) (by rfl) (fun w hSw => by (have hSw2 := AB.facts hSw; clear hSw; go_simp; first | done | exact rfl)) (by assumption) ?_
    simp only [List.setIfInBounds_toArray, List.set_cons_zero, List.set_cons_succ]
    refine take_at (i := 14) 52 rfl rfl (by kernel_rfl) (by kernel_rfl) (by kernel_rfl) (fun c _ _ h => absurd rfl (h.1 c)) (by rfl) (fun w hSw => by (have hSw2 := AB.facts hSw; clear hSw; go_simp; first | done | exact rfl)) (by assumption) ?_
    simp only [List.setIfInBounds_toArray, List.set_cons_zero, List.set_cons_succ]
    refine take_at (i := 15) 53 rfl rfl (by kernel_rfl) (by kernel_rfl) (by kernel_rfl) (fun c _ _ h => absurd rfl (h.1 c)) (by rfl) (fun w hSw => by (have hSw2 := AB.facts hSw; clear hSw; go_simp; first | done | exact rfl)) (by assumption) ?_
    simp only [List.setIfInBounds_toArray, List.set_cons_zero, List.set_cons_succ]
    refine take_at (i := 17) 55 rfl rfl (by kernel_rfl) (by kernel_rfl) (by kernel_rfl) (fun c _ _ h => absurd rfl (h.1 c)) (by rfl) (fun w hSw => by (have hSw2 := AB.facts hSw; clear hSw; go_simp; first | done | exact rfl)) (by assumption) ?_
    simp only [List.setIfInBounds_toArray, List.set_cons_zero, List.set_cons_succ]
    refine take_at (i := 18) 56 rfl rfl (by kernel_rfl) (by kernel_rfl) (by kernel_rfl) (fun c _ _ h => absurd rfl (h.1 c)) (by rfl) (fun w hSw => by (have hSw2 := AB.facts hSw; clear hSw; go_simp; first | done | exact rfl)) (by assumption) ?_
    simp only [List.setIfInBounds_toArray, List.set_cons_zero, List.set_cons_succ]
    refine one_call (i := 16) (w0 := w7.drew) 54 19 #[.pointer (some ⟨wb, 0, none⟩)] (by kernel_rfl) rfl rfl (by rfl) (by kernel_rfl) ?_
    refine HLN.out.mono ?_
    rintro e w8 ⟨rfl, hb8⟩
    have hS8 := hS7.below hb8
    have HON8 : Hid (WkOn w8 wb l) := (HON.out.below (Below.refl _ w7).drew).below hb8
    refine ⟨_, rfl, hS8, fun _ => ?_⟩
    simp only [List.setIfInBounds_toArray, List.set_cons_zero, List.set_cons_succ]
    refine take_at (i := 19) 57 rfl rfl (by kernel_rfl) (by kernel_rfl) (by kernel_rfl) (fun c _ _ h => absurd rfl (h.1 c)) (by rfl) (fun w hSw => by (have hSw2 := AB.facts hSw; clear hSw; go_simp; first | done | exact rfl)) (by assumption) ?_
    simp only [List.setIfInBounds_toArray, List.set_cons_zero, List.set_cons_succ]
    refine take_at (i := 20) 58 rfl rfl (by kernel_rfl) (by kernel_rfl) (by kernel_rfl) (fun c _ _ h => absurd rfl (h.1 c)) (by rfl) (fun w hSw => by (have hSw2 := AB.facts hSw; clear hSw; go_simp; first | done | exact rfl)) (by assumption) ?_
    simp only [List.setIfInBounds_toArray, List.set_cons_zero, List.set_cons_succ]
    refine wpAnyH_done (by kernel_rfl) ?_ _
    have HA8 : Hid (AB w w8 lb rb (.slice ad n cap)) := hS8
    clear hS7 hS8 hb8
    refine ⟨fun _ => nofun, ?_⟩
    go_upto_region 10 with fail
    obtain ⟨ib, hib⟩ : ∃ ib, ib = w8.heap.size := ⟨_, rfl⟩
    obtain ⟨W9, hW9⟩ : ∃ W9, W9 = w8.alloc (.cells #[.int .i64 0] 3) := ⟨_, rfl⟩
    have hb9 : Below w8.heap.size w8 W9 := by rw [hW9]; exact (Below.refl _ w8).alloc (Nat.le_refl _) _
    have hi9 : W9.heap[ib]? = some (.cells #[.int .i64 0] 3) := by rw [hW9, hib]; exact alloc_newP _ _
    have hs9 : W9.heap.size = w8.heap.size + 1 := by rw [hW9]; simp
    rw [← hib, ← hW9]
    clear hW9
    have HI9 : Hid (W9.heap[ib]? = some (.cells #[.int .i64 0] 3)) := hi9
    have HB9 : Hid (Below w8.heap.size w8 W9) := hb9
    have HS9 : Hid (W9.heap.size = w8.heap.size + 1) := hs9
    have HIB : Hid (ib = w8.heap.size) := hib
    clear hb9 hi9 hs9 hib
    go_wp2_with (go_at_call 16; refine (All_is wb _).mono ?_; rintro e wl ⟨rfl, hbl, hcw, hci, hsl⟩)
    have hwbl : wb < w8.heap.size := by obtain ⟨D, _, _, hW⟩ := HON8.out.at'; exact hW.lt
    have hs9 := HS9.out
    have hib := HIB.out
    have hbl8 : Below w8.heap.size w8 wl := HB9.out.trans (hbl.mono HB9.out.size)
    have hil : wl.heap[ib]? = some (.cells #[.int .i64 0] 3) := (hbl.block ib (by omega)).trans HI9.out
    have hwl8 : w8.heap.size ≤ wl.heap.size := hbl8.size
    have hSl : ∀ V, Below wl.heap.size wl V → FS w8 wb W9.heap.size (W9.heap.size + 1) 0 (fun k => k = ib ∨ k = wl.heap.size + 1 ∨ k = wl.heap.size) V := fun V hV => by
      refine ⟨hbl8.trans (hV.mono hbl8.size), fun j hj => by omega, (hV.cell (p := ⟨W9.heap.size, 0, none⟩) (by show W9.heap.size < _; omega)).trans hcw, (hV.cell (p := ⟨W9.heap.size + 1, 0, none⟩) (by show W9.heap.size + 1 < _; omega)).trans hci, fun e => by omega⟩
    refine wp_rangeC (gf := 66) (lb := #[.pointer (some ⟨W9.heap.size, 0, none⟩), .pointer (some ⟨W9.heap.size + 1, 0, none⟩)]) rfl (enters_of Tryd.func66 (by kernel_rfl) rfl) (from_seq w8 wb l HON8.out W9.heap.size (W9.heap.size + 1) 0 (by omega)) rfl
      (AI9 w8 ib wl.heap.size l) (AX9 l) (fun k => k = ib) (fun j hj => by rw [hj]; omega) hSl (AI9.minds w8 ib wl.heap.size l hwl8) (AX9.minds l wl.heap.size) ⟨List.nil_prefix, hbl8, rfl, fun k hk => .inl hk, hil⟩ ?_ ?_ ?_
    · rintro n2 lp A2 pre x V hAI hl2 hnl hlt
      obtain ⟨x1, x2⟩ := x
      simp only [pairV]
      have HAI : Hid (AI9 w8 ib wl.heap.size l A2 pre V) := hAI
      have HLT : Hid (wl.heap.size + 1 < V.heap.size) := hlt
      have HWL : Hid (w8.heap.size ≤ wl.heap.size) := hwl8
      have HIBW : Hid (ib < wl.heap.size) := by show _ < _; omega
      clear hAI hlt hSl hwl8 hil hs9 hib hsl
      gi_wp2
      refine ⟨Upd.of_below ((Below.refl _ V).alloc (Nat.le_refl _) _), fun W2 hu2 => ?_⟩
      have hlt := HLT.out
      have hua : Upd (fun j => j = wl.heap.size + 1) V W2 := (Upd.of_below (F := fun j => j = wl.heap.size + 1) ((Below.refl _ V).alloc (Nat.le_refl _) _)).trans hu2 (fun _ _ g => g)
      have hA2 : AI9 w8 ib wl.heap.size l A2 pre W2 := AI9.minds w8 ib wl.heap.size l HWL.out A2 pre V W2 HAI.out (hua.mono fun k e => by subst e; exact ⟨hnl, by omega⟩)
      have hl3 : Lies A2 W2 := fun j hj => Nat.lt_of_lt_of_le (hl2 j hj) hua.size
      have hp2 : W2.heap[V.heap.size]? = some (.cells #[.string x1, .int .i64 x2] 54) := (hu2.block V.heap.size (by simp) (fun e => by omega)).trans (alloc_newP _ _)
      obtain ⟨pb, hpb⟩ : ∃ pb, pb = V.heap.size := ⟨_, rfl⟩
      rw [← hpb] at hp2 ⊢
      have t0 : W2.cell? ⟨pb, 0, none⟩ = some (.string x1) := by simp [World.cell?, hp2]
      have t1 : W2.cell? ⟨pb, 1, none⟩ = some (.int .i64 x2) := by simp [World.cell?, hp2]
      have hAB : AB w W2 lb rb (.slice ad n cap) := HA8.out.below hA2.bel
      obtain ⟨q0, q1, q2⟩ := hAB.facts
      obtain ⟨k, hk⟩ : ∃ k, k = pre.length := ⟨_, rfl⟩
      have i0 : W2.cell? ⟨ib, 0, none⟩ = some (.int .i64 (k : Int)) := by rw [hk]; simp [World.cell?, hA2.cel]
      have i1 : W2.frozen? ⟨ib, 0, none⟩ = false := by simp [World.frozen?, hA2.cel]
      have hpr : PRow W2 (.slice ad n cap) l := HR.out.below hAB.bel
      have HRB : Hid (W2.heap[rb]? = some (.cells #[.bool false] 4)) := hAB.rbx
      have HAQ : Hid (AI9 w8 ib wl.heap.size l A2 pre W2) := hA2
      have HKL : Hid (k = pre.length) := hk
      by_cases hx : l[k]? = some (x1, x2)
      · have hkn : k < n := by have := (List.getElem?_eq_some_iff.1 hx).1; have := HN.out; omega
        obtain ⟨g, off, rfl, _, hcell⟩ := hpr.at (by omega)
        obtain ⟨d0, d1⟩ := hcell k _ hx
        simp only at d0 d1
        have HPX : Hid (pre ++ [(x1, x2)] <+: l) := pre_snoc hA2.pfx (by rw [← hk]; exact hx)
        have hkz : (k : Int) < (n : Int) := by omega
        have hge : decide ((n : Int) ≤ (k : Int)) = false := decide_eq_false (by omega)
        have hnle : ¬ n ≤ k := by omega
        have s1 : (x1.toList == x1.toList) = true := by simp
        have s2 : (x2 == x2) = true := by simp
        have hwk : IntKind.i64.wrap ((k : Int) + 1) = (k : Int) + 1 := by rw [IntKind.wrap_i64]; omega
        clear hua hu2 hlt hA2 hp2 hpb hk hx hcell hpr hAB
        gi_wp2
        refine wpIn_region_quiet_round (by kernel_rfl) (by kernel_rfl) (by kernel_rfl) ?_
        repeat (gi_big_quiet_step (fail))
        refine wpQuietIn_nil ?_
        intro _ hw'
        obtain ⟨nq, hw''⟩ := hw'
        subst hw''
        gi_wp2
        refine ⟨A2, Ext.refl _ _, fun j hj => by simpa [World.setCell] using hl3 j hj, upd_cell' HAQ.out.own _, ?_⟩
        rw [HKL.out]
        exact HAQ.out.step (Nat.le_of_eq HIB.out.symm) HPX.out _
      · have HNP : Hid (¬ pre ++ [(x1, x2)] <+: l) := pre_not (by rw [← hk]; exact hx)
        by_cases hkn : k < n
        · obtain ⟨y, hy⟩ : ∃ y, l[k]? = some y := ⟨_, List.getElem?_eq_getElem (by have := HN.out; omega)⟩
          obtain ⟨g, off, rfl, _, hcell⟩ := hpr.at (by omega)
          obtain ⟨d0, d1⟩ := hcell k _ hy
          have hkz : (k : Int) < (n : Int) := by omega
          have hge : decide ((n : Int) ≤ (k : Int)) = false := decide_eq_false (by omega)
          have hnle : ¬ n ≤ k := by omega
          by_cases e1 : x1 = y.1
          · have s1 : (x1.toList == y.1.toList) = true := by rw [e1]; simp
            have s2 : (x2 == y.2) = false := beq_eq_false_iff_ne.2 (fun e2 => hx (by rw [hy, e1, e2]))
            clear hua hu2 hlt hA2 hp2 hpb hk hx hcell hpr hAB hy e1
            gi_wp2
            refine wpIn_region_quiet_round (by kernel_rfl) (by kernel_rfl) (by kernel_rfl) ?_
            repeat (gi_big_quiet_step (fail))
            refine wpQuietIn_nil ?_
            intro _ hw'
            obtain ⟨nq, hw''⟩ := hw'
            subst hw''
            gi_wp2
            exact ⟨A2, Ext.refl _ _, fun j hj => by simpa [World.setCell] using hl3 j hj, upd_same' HRB.out, rfl, HNP.out⟩
          · have s1 : (x1.toList == y.1.toList) = false := by
              rw [ByteArray.toList_eq, ByteArray.toList_eq]
              refine beq_eq_false_iff_ne.2 (fun e => e1 ?_)
              cases x1; cases hy1 : y.1
              rw [hy1] at e
              simp at e; simp [e]
            clear hua hu2 hlt hA2 hp2 hpb hk hx hcell hpr hAB hy e1
            gi_wp2
            refine wpIn_region_quiet_round (by kernel_rfl) (by kernel_rfl) (by kernel_rfl) ?_
            repeat (gi_big_quiet_step (fail))
            refine wpQuietIn_nil ?_
            intro _ hw'
            obtain ⟨nq, hw''⟩ := hw'
            subst hw''
            gi_wp2
            exact ⟨A2, Ext.refl _ _, fun j hj => by simpa [World.setCell] using hl3 j hj, upd_same' HRB.out, rfl, HNP.out⟩
        · have hge : decide ((n : Int) ≤ (k : Int)) = true := decide_eq_true (by omega)
          have hkz : (n : Int) ≤ (k : Int) := by omega
          clear hua hu2 hlt hA2 hp2 hpb hk hx hpr hAB
          gi_wp2
          refine wpIn_region_quiet_round (by kernel_rfl) (by kernel_rfl) (by kernel_rfl) ?_
          repeat (gi_big_quiet_step (fail))
          refine wpQuietIn_nil ?_
          intro _ hw'
          obtain ⟨nq, hw''⟩ := hw'
          subst hw''
          gi_wp2
          exact ⟨A2, Ext.refl _ _, fun j hj => by simpa [World.setCell] using hl3 j hj, upd_same' HRB.out, rfl, HNP.out⟩
    · rintro A' V hl' hAI hD
      have HD : Hid (V.heap[wl.heap.size]? = some (.deferred (some []))) := hD
      have HAV : Hid (AB w V lb rb (.slice ad n cap)) := HA8.out.below hAI.bel
      obtain ⟨q0, q1, q2⟩ := HAV.out.facts
      have hcel := hAI.cel
      rw [List.drop_zero, HN.out] at hcel
      have i0 : V.cell? ⟨ib, 0, none⟩ = some (.int .i64 (n : Int)) := by simp [World.cell?, hcel]
      have HDW : Hid (w.heap.size ≤ wl.heap.size) := by show _ ≤ _; have := HA8.out.bel.size; omega
      have HNE : Hid (wl.heap.size ≠ rb) := by show _ ≠ _; have := (Array.getElem?_eq_some_iff.1 HA8.out.rbx).1; omega
      clear hcel hAI hD hSl hwl8 hil hs9 hib hsl hbl hbl8 hcw hci hwbl HON8 HLN
      generalize wl.heap.size = db at *
      go_wp2
      obtain ⟨hcb, hbe⟩ := aw_end HAV.out HLO.out.2.1 HDW.out HNE.out
      exact ⟨by simp, .inl ⟨_, _, rfl, run_takeDeferred ((Below.heap_setCell V _ _ _ HNE.out).trans HD.out), _, aw_results rfl hcb, HPO.out _ hbe⟩⟩
    · rintro c A' q V hq hl' ⟨rfl, hnq⟩ hD
      exact absurd hq (by rw [List.drop_zero]; exact hnq)
  · have hcf : decide (C = 0) = false := decide_eq_false hC0
    rw [hcf] at HRR
    have hCn : (C != 0) = true := by simpa using hC0
    clear hcf hC0
    go_upto_region 3 with (go_at_call 9; refine (HRR.out _ HA2.out.bel).mono ?_; rintro e w3 ⟨rfl, hb3⟩)
    have HA3 : Hid (AB w w3 lb rb (.slice ad n cap)) := HA2.out.below hb3
    clear q0 q1 q2 hb3
    obtain ⟨q0, q1, q2⟩ := HA3.out.facts
    go_wp2
    have hcb : (w3.setCell ⟨rb, 0, none⟩ (.bool true)).cell? ⟨rb, 0, none⟩ = some (.bool true) := World.cell?_setCell_same _ _ _ q1
    exact ⟨_, aw_results rfl hcb, HPO.out _ (HA3.out.bel.setCell (by show w.heap.size ≤ rb; exact HLO.out.2.1) _)⟩
end Go.Proofs.YtjhjejjnkpbphaaDoor
