/- The reference of the slot: what Save wants. -/
import Derived.Test.YtpmmpdkeahmdiaaROpen
import Derived.Test.YtpmmpdkeahmdiaaSecAll
namespace Go.Proofs.Ytpmmpdkeahmdiaa
open Go.RowKit
set_option maxRecDepth 100000

section
variable {md : Region.Mode} {ops : Array Oper} {Q : Exit → Act → World → Prop} {S : World → Prop}
/-- A load of a whole disk, taken first. -/
theorem take_D {i : Nat} {oi : Oper} {fuel : Nat} {listed : Array Bool} {tmps : Array Value} {df : List Deferred} {w : World} {b t0 : Nat} {r : RD} {ad : Option Addr} {n c : Nat} (t : Tmp) (hi : ops[i]? = some oi) (hd : oi.dst = some t) (hop : oi.op = Op.load 27 (.tmp t0)) (ht : Act.eval { tmps := tmps, defers := df } (.tmp t0) = .pointer (some ⟨b, 0, none⟩))
    (hs : Region.noSelect ops = true) (hf : Region.free md ops listed i = true) (hr : (Region.ready md ops listed).contains i = true)
    (hQ : ∀ c' a w, Q (.panic c') (a.put oi.dst (rdV r (.slice ad n c))) w → Q (.panic c') a w) (hw : Region.wanted oi (yielded ops tmps) = true) (hSD : ∀ w, S w → DskAt w b r (.slice ad n c)) (hS : S w)
    (h : wpAnyH Try.prog md ops Q S fuel (listed.setIfInBounds i true) { tmps := tmps.setIfInBounds t (rdV r (.slice ad n c)), defers := df } w) : wpAnyH Try.prog md ops Q S (fuel + 1) listed { tmps := tmps, defers := df } w := by
  refine take_at (v := rdV r (.slice ad n c)) t hi hd hs hf hr hQ hw (fun W hW => ?_) hS h
  obtain ⟨dst, op, ty, pos, af, g⟩ := oi
  simp only at hop
  subst hop
  rw [exec_load_D, ht, loadD_at (hSD W hW)]
  rfl
/-- A load of a whole slot, taken first. -/
theorem take_T {i : Nat} {oi : Oper} {fuel : Nat} {listed : Array Bool} {tmps : Array Value} {df : List Deferred} {w : World} {b t0 : Nat} {r : RT} (t : Tmp) (hi : ops[i]? = some oi) (hd : oi.dst = some t) (hop : oi.op = Op.load 63 (.tmp t0)) (ht : Act.eval { tmps := tmps, defers := df } (.tmp t0) = .pointer (some ⟨b, 0, none⟩))
    (hs : Region.noSelect ops = true) (hf : Region.free md ops listed i = true) (hr : (Region.ready md ops listed).contains i = true)
    (hQ : ∀ c' a w, Q (.panic c') (a.put oi.dst (rtV r)) w → Q (.panic c') a w) (hw : Region.wanted oi (yielded ops tmps) = true) (hSD : ∀ w, S w → SltAt w b r) (hS : S w)
    (h : wpAnyH Try.prog md ops Q S fuel (listed.setIfInBounds i true) { tmps := tmps.setIfInBounds t (rtV r), defers := df } w) : wpAnyH Try.prog md ops Q S (fuel + 1) listed { tmps := tmps, defers := df } w := by
  refine take_at (v := rtV r) t hi hd hs hf hr hQ hw (fun W hW => ?_) hS h
  obtain ⟨dst, op, ty, pos, af, g⟩ := oi
  simp only at hop
  subst hop
  rw [exec_load_T, ht, loadT_at (hSD W hW)]
  rfl
/-- A world in which nothing but two blocks is other. -/
structure TwoOff (b6 b7 : Nat) (w W : World) : Prop where
  size : W.heap.size = w.heap.size
  far : ∀ b, b ≠ b6 → b ≠ b7 → W.heap[b]? = w.heap[b]?
  below : ∀ (B : Nat) (a : World), B ≤ b6 → B ≤ b7 → Below B a w → Below B a W
theorem off_D (w : World) (b6 b7 : Nat) (r : RD) (l : Value) : TwoOff b6 b7 w (setD w b6 r l) := ⟨setD_size _ _ _ _, fun _ h _ => setD_far _ _ _ _ _ h, fun _ _ h _ hb => setD_below hb h _ _⟩
theorem off_T (w : World) (b6 b7 : Nat) (r : RT) : TwoOff b6 b7 w (setT w b7 r) := ⟨setT_size _ _ _, fun _ _ h => setT_far _ _ _ _ h, fun _ _ _ h hb => setT_below hb h _⟩
theorem TwoOff.trans {b6 b7 : Nat} {w w1 w2 : World} (h : TwoOff b6 b7 w w1) (h2 : TwoOff b6 b7 w1 w2) : TwoOff b6 b7 w w2 := ⟨h2.size.trans h.size, fun b x y => (h2.far b x y).trans (h.far b x y), fun B a x y z => h2.below B a x y (h.below B a x y z)⟩
theorem run_put_D {o : Oper} {ti vi : Tmp} {a : Act} {w : World} {b : Nat} {r0 r : RD} {l0 : Value} {ad : Option Addr} {n c : Nat} (hop : o.op = Op.store 27 (.tmp ti) (.tmp vi)) (ht : a.eval (.tmp ti) = .pointer (some ⟨b, 0, none⟩)) (hv : a.eval (.tmp vi) = rdV r (.slice ad n c)) (hb : DskAt w b r0 l0) : (execOp a.eval o).run Try.prog w = .ok .skip (setD w b r (.slice ad n c)) := by
  obtain ⟨dst, op, ty, pos, af, g⟩ := o
  simp only at hop
  subst hop
  rw [exec_store_D, ht, hv, storeD_at hb]
  rfl
theorem run_put_T {o : Oper} {ti vi : Tmp} {a : Act} {w : World} {b : Nat} {r0 r : RT} (hop : o.op = Op.store 63 (.tmp ti) (.tmp vi)) (ht : a.eval (.tmp ti) = .pointer (some ⟨b, 0, none⟩)) (hv : a.eval (.tmp vi) = rtV r) (hb : SltAt w b r0) : (execOp a.eval o).run Try.prog w = .ok .skip (setT w b r) := by
  obtain ⟨dst, op, ty, pos, af, g⟩ := o
  simp only at hop
  subst hop
  rw [exec_store_T, ht, hv, storeT_at hb]
  rfl
/-- A disk is stored, then a slot. -/
theorem put_chain {i j : Nat} {oi oj : Oper} {fuel : Nat} {listed : Array Bool} {tmps : Array Value} {df : List Deferred} {w : World} {ti vi tj vj : Tmp} {b6 b7 : Nat} {r0 r : RD} {l0 : Value} {ad : Option Addr} {n c : Nat} {q0 q : RT}
    (hr : Region.ready md ops listed = [i]) (hr1 : Region.ready md ops (listed.setIfInBounds i true) = [j])
    (hi : ops[i]? = some oi) (hj : ops[j]? = some oj) (hdi : oi.dst = none) (hdj : oj.dst = none) (hwi : Region.wanted oi (yielded ops tmps) = true) (hwj : Region.wanted oj (yielded ops tmps) = true)
    (hopi : oi.op = Op.store 27 (.tmp ti) (.tmp vi)) (hopj : oj.op = Op.store 63 (.tmp tj) (.tmp vj))
    (hti : Act.eval { tmps := tmps, defers := df } (.tmp ti) = .pointer (some ⟨b6, 0, none⟩)) (hvi : Act.eval { tmps := tmps, defers := df } (.tmp vi) = rdV r (.slice ad n c))
    (htj : Act.eval { tmps := tmps, defers := df } (.tmp tj) = .pointer (some ⟨b7, 0, none⟩)) (hvj : Act.eval { tmps := tmps, defers := df } (.tmp vj) = rtV q)
    (hb6 : DskAt w b6 r0 l0) (hb7 : SltAt w b7 q0) (hne : b6 ≠ b7) (hS : ∀ W, TwoOff b6 b7 w W → S W)
    (h : ∀ W, DskAt W b6 r (.slice ad n c) → SltAt W b7 q → TwoOff b6 b7 w W → S W → wpAnyH Try.prog md ops Q S fuel ((listed.setIfInBounds i true).setIfInBounds j true) { tmps := tmps, defers := df } W) : wpAnyH Try.prog md ops Q S (fuel + 1 + 1) listed { tmps := tmps, defers := df } w := by
  have o1 := off_D w b6 b7 r (.slice ad n c)
  have c7 : SltAt (setD w b6 r (.slice ad n c)) b7 q0 := (setD_far _ _ _ _ _ (Ne.symm hne)).trans hb7
  refine one_skip hr hi hdi hwi (run_put_D hopi hti hvi hb6) (hS _ o1) (fun _ => ?_)
  refine one_skip hr1 hj hdj hwj (run_put_T hopj htj hvj c7) (hS _ (o1.trans (off_T _ _ _ _))) (fun hW => ?_)
  exact h _ ((setT_far _ _ _ _ hne).trans hb6.set) c7.set (o1.trans (off_T _ _ _ _)) hW
end
/-- A disk behind a Write is what a disk is sure to be. -/
theorem DsOk.mono' {N M : Nat} {d : DS} (h : DsOk N d) (hN : N ≤ M) : DsOk M d :=
  ⟨h.sorted, h.there, h.last64, h.fresh64, h.r1, h.r2, h.s1, by have := h.s2; omega, by have := h.len; omega, h.fits, fun s hs => by have := h.fresh s hs; omega, h.a1, h.a2, h.a3⟩
theorem ds_wr {N : Nat} {d : DS} (h : DsOk N d) (a n : Int) (xs : List Nat) : DsOk (N + 1) (wrD d a n xs) := by
  unfold wrD
  split
  · exact h.mono' (by omega)
  · rename_i hdd
    split
    · exact h.mono' (by omega)
    · rename_i hf
      split
      · exact h.mono' (by omega)
      · rename_i hfu
        have hl : xs.length ≤ 64 := by unfold formBad at hf; omega
        have hst : (stepD d).room = d.room ∧ (stepD d).steps = d.steps + 1 ∧ -9223372036854775808 ≤ (stepD d).ahead ∧ (stepD d).ahead ≤ 9223372036854775807 ∧ ((stepD d).armed = true → 0 ≤ (stepD d).ahead) := by
          have a1 := h.a1; have a2 := h.a2; have a3 := h.a3
          unfold stepD
          rw [if_neg hdd]
          split
          · exact ⟨rfl, rfl, a1, a2, a3⟩
          · rename_i ha
            have ha2 := a3 (by simpa using ha)
            split
            · exact ⟨rfl, rfl, a1, a2, a3⟩
            · exact ⟨rfl, rfl, by show _ ≤ d.ahead - 1; omega, by show d.ahead - 1 ≤ _; omega, fun _ => by show 0 ≤ d.ahead - 1; omega⟩
        obtain ⟨q1, q2, q3, q4, q5⟩ := hst
        have hwl := wr_len (a := a) (n := n) (v := pad xs) h.sorted
        have hle : (wr a n (pad xs) d.secs).length ≤ d.secs.length + 1 := by rw [hwl]; split <;> omega
        have hfit : ((wr a n (pad xs) d.secs).length : Int) ≤ d.room := by
          have := h.fits
          rw [hwl]
          by_cases hs : (findS a n d.secs).isSome
          · rw [if_pos hs]; exact this
          · rw [if_neg hs]
            have hn : findS a n d.secs = none := by simpa using hs
            have : ¬ (d.room = (d.secs.length : Int)) := fun hle => hfu ⟨by rw [hn]; rfl, hle⟩
            omega
        have := h.s1; have := h.s2; have := h.len
        refine ⟨wr_sorted h.sorted, fun s hs => ?_, fun s hs v hv => ?_, fun s hs v hv => ?_, by show 0 ≤ (stepD d).room; rw [q1]; exact h.r1, by show (stepD d).room ≤ _; rw [q1]; exact h.r2, by show 0 ≤ (stepD d).steps; omega, by show (stepD d).steps ≤ _; omega, by show (wr a n (pad xs) d.secs).length ≤ _; omega, by show _ ≤ (stepD d).room; rw [q1]; exact hfit, fun s hs => ?_, q3, q4, q5⟩
        · rcases wr_mem hs with h1 | ⟨_, _, ⟨_, h2⟩ | ⟨t, _, _, h2⟩⟩
          · exact h.there s h1
          · exact .inr (by rw [h2]; simp)
          · exact .inr (by rw [h2]; simp)
        · rcases wr_mem hs with h1 | ⟨_, _, ⟨h2, _⟩ | ⟨t, ht, h2, _⟩⟩
          · exact h.last64 s h1 v hv
          · rw [h2] at hv; cases hv
          · exact h.last64 t ht v (by rw [← h2]; exact hv)
        · rcases wr_mem hs with h1 | ⟨_, _, ⟨_, h2⟩ | ⟨t, ht, _, h2⟩⟩
          · exact h.fresh64 s h1 v hv
          · rw [h2] at hv; rw [List.mem_singleton.1 hv]; exact pad_len hl
          · rw [h2] at hv
            rcases List.mem_append.1 hv with hv | hv
            · exact h.fresh64 t ht v hv
            · rw [List.mem_singleton.1 hv]; exact pad_len hl
        · rcases wr_mem hs with h1 | ⟨_, _, ⟨_, h2⟩ | ⟨t, ht, _, h2⟩⟩
          · have := h.fresh s h1; omega
          · rw [h2]; simp
          · rw [h2, List.length_append]; have := h.fresh t ht; simp; omega
end Go.Proofs.Ytpmmpdkeahmdiaa
