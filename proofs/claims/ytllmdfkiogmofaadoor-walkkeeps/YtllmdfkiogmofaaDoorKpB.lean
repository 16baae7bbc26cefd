/- WalkKeeps: what is written into, and what is kept. -/
import Derived.Test.YtllmdfkiogmofaaDoorKpC
namespace Go.Proofs.YtllmdfkiogmofaaDoor
open Go.RowKit Nums Fm Pk Pm
set_option maxRecDepth 100000

abbrev Sl := Option Addr × Nat × Nat
/-- The machine that is written into: its states' row, each state's arcs; all blocks from B on, below T. -/
structure MS (B T : Nat) (w : World) (sd : Option Addr) (vas : List Sl) : Prop where
  st : 0 < vas.length → ∃ sg so, sd = some ⟨sg, so, none⟩ ∧ B ≤ sg ∧ sg < T ∧ (∀ o, w.frozen? ⟨sg, o, none⟩ = false) ∧ ∀ i x, vas[i]? = some x → (∃ f, w.cell? ⟨sg, so + i * 3, none⟩ = some (.bool f)) ∧ w.cell? ⟨sg, so + i * 3 + 2, none⟩ = some (.slice x.1 x.2.1 x.2.2) ∧ (0 < x.2.1 → ∃ g off, x.1 = some ⟨g, off, none⟩ ∧ B ≤ g ∧ g < T ∧ g ≠ sg ∧ w.there g off (x.2.1 * 3))
  sz : T ≤ w.heap.size
theorem ty_ne {w : World} {a b : Nat} {c d : Array Value} {S T : TypeId} (h : w.heap[a]? = some (.cells c S (0, 0))) (k : w.heap[b]? = some (.cells d T (0, 0))) (hne : S ≠ T) : a ≠ b := fun e => by
  subst e
  rw [h] at k
  cases k
  exact hne rfl
theorem choose_listK {α : Type} {len : Nat} {P : Nat → α → Prop} (each : ∀ i, i < len → ∃ o, P i o) : ∃ L : List α, L.length = len ∧ ∀ i o, L[i]? = some o → P i o := by
  refine ⟨(List.range len).attach.map fun i => Classical.choose (each i.1 (List.mem_range.1 i.2)), by simp, fun i o hi => ?_⟩
  obtain ⟨h, rfl⟩ := List.getElem?_eq_some_iff.1 hi
  simp only [List.getElem_map, List.getElem_attach, List.getElem_range]
  have hlt : i < len := by simpa using h
  exact Classical.choose_spec (each i hlt)
theorem frozen_block {w : World} {g : Nat} {cur : Array Value} {T : TypeId} (h : w.heap[g]? = some (.cells cur T (0, 0))) (o : Nat) : w.frozen? ⟨g, o, none⟩ = false := by simp [World.frozen?, h]
theorem MS.of {B : Nat} {w : World} {vs : Value} {b : List Fm.St} (h : StRow B w vs b) : ∃ (sd : Option Addr) (sc : Nat) (vas : List Sl), vs = .slice sd b.length sc ∧ vas.length = b.length ∧ (∀ (i : Nat) (t : Fm.St) (x : Sl), b[i]? = some t → vas[i]? = some x → x.2.1 = t.arcs.length) ∧ MS B w.heap.size w sd vas := by
  obtain ⟨xss, h1, h2, h3⟩ := h
  obtain ⟨sd, sc, hv, _⟩ := h1.shape
  have each : ∀ i, i < b.length → ∃ x : Sl, (∃ f o, xss[i]? = some [.bool f, .int .i64 o, .slice x.1 x.2.1 x.2.2]) ∧ (∀ t, b[i]? = some t → x.2.1 = t.arcs.length) ∧ ∃ ys, GOwn 38 3 B w (.slice x.1 x.2.1 x.2.2) ys ∧ ys.length = x.2.1 := by
    intro i hi
    obtain ⟨t, ht⟩ : ∃ t, b[i]? = some t := ⟨_, List.getElem?_eq_getElem hi⟩
    obtain ⟨va, e1, e2⟩ := h3 i t ht
    obtain ⟨a, c, hva, _⟩ := GOwn.shape e2
    subst hva
    exact ⟨(a, _, c), ⟨_, _, e1⟩, fun t' ht' => by rw [ht] at ht'; cases ht'; simp, _, e2, rfl⟩
  obtain ⟨vas, hvl, hP⟩ := choose_listK each
  refine ⟨sd, sc, vas, by rw [hv, h2], hvl, fun i t x ht hx => (hP i x hx).2.1 t ht, fun h0 => ?_, Nat.le_refl _⟩
  obtain ⟨ad', cap', hv2, hx⟩ := h1.reads.ex
  rw [hv] at hv2
  cases hv2
  obtain ⟨sg, so, rfl, hsg, hc⟩ := hx (by omega)
  have hob : vs.ownBlock = some sg := by rw [hv]; rfl
  obtain ⟨k1, cur, k2⟩ := h1.block hob
  refine ⟨sg, so, rfl, k1, h1.lt hob, fun o => frozen_block k2 o, fun i x hxi => ?_⟩
  obtain ⟨⟨f, o, e1⟩, _, ys, e3, e4⟩ := hP i x hxi
  refine ⟨⟨f, by have := hc i 0 _ _ e1 rfl; simpa using this⟩, hc i 2 _ _ e1 rfl, fun hn => ?_⟩
  obtain ⟨a, c, ev, hR⟩ := e3.wr
  simp only [Value.slice.injEq] at ev
  obtain ⟨ea, _, _⟩ := ev
  rw [e4] at hR
  obtain ⟨g, off, e5, e6, e7, e8⟩ := hR hn
  have hob2 : (Value.slice x.1 x.2.1 x.2.2).ownBlock = some g := by rw [ea, e5]; rfl
  obtain ⟨_, cur2, k3⟩ := e3.block hob2
  exact ⟨g, off, by rw [ea, e5], e6, e7, ty_ne k3 k2 (by decide), e8⟩
theorem MS.keep {B T : Nat} {w w' : World} {sd : Option Addr} {vas : List Sl} (h : MS B T w sd vas) (hs : T ≤ w'.heap.size) (hk : ∀ j, B ≤ j → j < T → w'.heap[j]? = w.heap[j]?) : MS B T w' sd vas := by
  refine ⟨fun h0 => ?_, hs⟩
  obtain ⟨sg, so, e, h1, h2, h3, h4⟩ := h.st h0
  have e1 := hk sg h1 h2
  refine ⟨sg, so, e, h1, h2, fun o => by have := h3 o; simp only [World.frozen?, e1] at this ⊢; exact this, fun i x hx => ?_⟩
  obtain ⟨⟨f, k1⟩, k2, k3⟩ := h4 i x hx
  refine ⟨⟨f, (World.cell?_of_block (a := ⟨sg, so + i * 3, none⟩) e1).trans k1⟩, (World.cell?_of_block (a := ⟨sg, so + i * 3 + 2, none⟩) e1).trans k2, fun hn => ?_⟩
  obtain ⟨g, off, m1, m2, m3, m4, m5⟩ := k3 hn
  exact ⟨g, off, m1, m2, m3, m4, there_of m5 (hk g m2 m3)⟩
theorem there_set {w : World} {g o n : Nat} (h : w.there g o n) (b p : Nat) (v : Value) : (w.setCell ⟨b, p, none⟩ v).there g o n := World.there_setCells h b p [v]
theorem size_set (w : World) (p : Addr) (v : Value) : (w.setCell p v).heap.size = w.heap.size := by simp [World.setCell]
/-- A cell of an arc written. -/
theorem MS.arc {B T : Nat} {w : World} {sd : Option Addr} {vas : List Sl} (h : MS B T w sd vas) (g p : Nat) (v : Value) (hne : ∀ sg so, sd = some ⟨sg, so, none⟩ → g ≠ sg) : MS B T (w.setCell ⟨g, p, none⟩ v) sd vas := by
  refine ⟨fun h0 => ?_, by rw [size_set]; exact h.sz⟩
  obtain ⟨sg, so, e, h1, h2, h3, h4⟩ := h.st h0
  have e1 : (w.setCell ⟨g, p, none⟩ v).heap[sg]? = w.heap[sg]? := Below.heap_setCell _ _ _ _ (fun e2 => hne sg so e e2.symm)
  refine ⟨sg, so, e, h1, h2, fun o => by have := h3 o; simp only [World.frozen?, e1] at this ⊢; exact this, fun i x hx => ?_⟩
  obtain ⟨⟨f, k1⟩, k2, k3⟩ := h4 i x hx
  refine ⟨⟨f, (World.cell?_of_block (a := ⟨sg, so + i * 3, none⟩) e1).trans k1⟩, (World.cell?_of_block (a := ⟨sg, so + i * 3 + 2, none⟩) e1).trans k2, fun hn => ?_⟩
  obtain ⟨g2, off, m1, m2, m3, m4, m5⟩ := k3 hn
  exact ⟨g2, off, m1, m2, m3, m4, there_set m5 _ _ _⟩
theorem cell_set_ne {w : World} {b o p : Nat} {u : Value} (h : p ≠ o) (v : Value) (hc : w.cell? ⟨b, p, none⟩ = some u) : (w.setCell ⟨b, o, none⟩ v).cell? ⟨b, p, none⟩ = some u := by
  simp only [World.cell?, World.setCell] at hc ⊢
  cases e : w.heap[b]? with
  | none => rw [e] at hc; simp at hc
  | some x =>
    rw [e] at hc
    rw [Array.getElem?_modify]
    cases x <;> simp_all [Array.getElem?_setIfInBounds_ne (Ne.symm h)]
theorem cell_set_eq {w : World} {b o : Nat} {u : Value} (v : Value) (hc : w.cell? ⟨b, o, none⟩ = some u) : (w.setCell ⟨b, o, none⟩ v).cell? ⟨b, o, none⟩ = some v := by
  simp only [World.cell?, World.setCell] at hc ⊢
  cases e : w.heap[b]? with
  | none => rw [e] at hc; simp at hc
  | some x =>
    rw [e] at hc
    rw [Array.getElem?_modify]
    cases x with
    | cells C t f =>
      simp only at hc
      have := (Array.getElem?_eq_some_iff.1 (by simpa using hc)).1
      simp_all
    | _ => simp at hc
/-- A state's flag turned. -/
theorem MS.flip {B T : Nat} {w : World} {sg so : Nat} {vas : List Sl} (h : MS B T w (some ⟨sg, so, none⟩) vas) (k : Nat) (f' : Bool) : MS B T (w.setCell ⟨sg, so + k * 3, none⟩ (.bool f')) (some ⟨sg, so, none⟩) vas := by
  refine ⟨fun h0 => ?_, by rw [size_set]; exact h.sz⟩
  obtain ⟨sg', so', e, h1, h2, h3, h4⟩ := h.st h0
  cases e
  refine ⟨sg, so, rfl, h1, h2, fun o => ?_, fun i x hx => ?_⟩
  · have := h3 o
    rw [World.frozen?_setCell]
    exact this
  obtain ⟨⟨f, k1⟩, k2, k3⟩ := h4 i x hx
  refine ⟨?_, cell_set_ne (by omega) _ k2, fun hn => ?_⟩
  · by_cases hik : i = k
    · subst hik
      exact ⟨f', cell_set_eq _ k1⟩
    · exact ⟨f, cell_set_ne (by omega) _ k1⟩
  obtain ⟨g2, off, m1, m2, m3, m4, m5⟩ := k3 hn
  exact ⟨g2, off, m1, m2, m3, m4, there_set m5 _ _ _⟩
theorem RowW.set {B : Nat} {w : World} {ad : Option Addr} {n : Nat} (h : RowW B w ad n) (g p : Nat) (v : Value) : RowW B (w.setCell ⟨g, p, none⟩ v) ad n := fun h0 => by
  obtain ⟨g2, off, e, h1, h2, h3⟩ := h h0
  exact ⟨g2, off, e, h1, by rw [size_set]; exact h2, there_set h3 _ _ _⟩
/-- What is kept: all below w's size; from w1's on what New had made. -/
structure Kp (w : World) (T : Nat) (w2 W : World) : Prop where
  bel : Below w.heap.size w W
  lo : ∀ j, T ≤ j → j < w2.heap.size → W.heap[j]? = w2.heap[j]?
  sz : w2.heap.size ≤ W.heap.size
theorem Kp.step {w w2 W W' : World} {T : Nat} (h : Kp w T w2 W) (hb : Below W.heap.size W W') : Kp w T w2 W' :=
  ⟨h.bel.trans (hb.mono h.bel.size), fun j h1 h2 => (hb.block j (Nat.lt_of_lt_of_le h2 h.sz)).trans (h.lo j h1 h2), Nat.le_trans h.sz hb.size⟩
theorem Kp.set {w w2 W : World} {T : Nat} (h : Kp w T w2 W) {g p : Nat} (v : Value) (h1 : w.heap.size ≤ g) (h2 : g < T ∨ w2.heap.size ≤ g) : Kp w T w2 (W.setCell ⟨g, p, none⟩ v) :=
  ⟨h.bel.setCell h1 v, fun j k1 k2 => (Below.heap_setCell _ _ _ _ (by show j ≠ g; omega)).trans (h.lo j k1 k2), by rw [size_set]; exact h.sz⟩
end Go.Proofs.YtllmdfkiogmofaaDoor
