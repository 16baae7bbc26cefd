/- Texts that were written apart, joined. -/
import Derived.Test.YthfngcpcccbnpaaDoorG2
import Derived.Test.YthfngcpcccbnpaaDoorG0
import Derived.Test.YthfngcpcccbnpaaDoorDrawn8
import Derived.Test.YthfngcpcccbnpaaDoorJ6
import Derived.Test.YthfngcpcccbnpaaDoorJ7
/- The law's own 'alive': it is true. -/
namespace Go.Proofs.YthfngcpcccbnpaaDoor
open Go.RowKit Nums
set_option maxRecDepth 100000

/-- What is owned can be read. -/
theorem Made.row {B : Nat} {w : World} {v : Value} {xs : List Int} (h : Made B w v xs) : Row w v xs := by
  obtain ⟨hl, hn | ⟨g, cap, cur, rfl, hb, hg, h1, h2, h3, h4⟩⟩ := h
  · obtain ⟨rfl, h0⟩ := hn
    refine ⟨none, 0, by rw [h0], fun h => by omega⟩
  · refine ⟨_, _, rfl, fun _ => ⟨g, 0, rfl, fun i hi => ?_⟩⟩
    have hc : cur[i]? = some (.int .i32 (xs.getD i 0)) := by
      have e : (cur.toList.take (xs.length * 1))[i]? = (xs.map (Value.int .i32))[i]? := by rw [h4]
      rw [List.getElem?_take, if_pos (by omega)] at e
      rw [← Array.getElem?_toList, e, List.getElem?_map, List.getElem?_eq_getElem hi]
      simp [List.getD_eq_getElem?_getD, List.getElem?_eq_getElem hi]
    simp only [World.cell?, hg, Nat.zero_add]
    simpa using hc
/-- What could be read can be read still. -/
theorem Row.below {w w' : World} {v : Value} {xs : List Int} (h : Row w v xs) (hb : Below w.heap.size w w') : Row w' v xs := by
  obtain ⟨ao, cap, rfl, hc⟩ := h
  refine ⟨ao, cap, rfl, fun h0 => ?_⟩
  obtain ⟨b, off, rfl, hd⟩ := hc h0
  exact ⟨b, off, rfl, fun i hi => (hb.cell (p := ⟨b, off + i, none⟩) (lt_of_cell (hd i hi))).trans (hd i hi)⟩
end Go.Proofs.YthfngcpcccbnpaaDoor

/- Cut: what the seat's translation lacks is left out. -/
/- The reference's SameState and Same. -/
namespace Go.Proofs.YthfngcpcccbnpaaDoor
open Go.RowKit Nums Fm
set_option maxRecDepth 100000
theorem StRow.at {B : Nat} {w : World} {vs : Value} {b : List St} (h : StRow B w vs b) (h0 : 0 < b.length) : ∃ g cap, vs = .slice (some ⟨g, 0, none⟩) b.length cap ∧ g < w.heap.size ∧ ∀ (i : Nat) (s : St), b[i]? = some s → ∃ va, AOwn B w va s.arcs ∧ w.cell? ⟨g, i * 3, none⟩ = some (.bool s.final) ∧ w.cell? ⟨g, i * 3 + 1, none⟩ = some (.int .i64 s.out) ∧ w.cell? ⟨g, i * 3 + 2, none⟩ = some va := by
  obtain ⟨xss, h1, h2, h3⟩ := h
  obtain ⟨g, cap, rfl, hg, _, _, hc⟩ := h1.cell (by omega)
  refine ⟨g, cap, by rw [h2], hg, fun i s hi => ?_⟩
  obtain ⟨va, h4, h5⟩ := h3 i s hi
  exact ⟨va, h5, hc i 0 _ _ h4 rfl, hc i 1 _ _ h4 rfl, hc i 2 _ _ h4 rfl⟩
theorem StRow.shape {B : Nat} {w : World} {vs : Value} {b : List St} (h : StRow B w vs b) : ∃ ad cap, vs = .slice ad b.length cap := by
  obtain ⟨xss, h1, h2, _⟩ := h
  obtain ⟨ad, cap, h3, _⟩ := h1.shape
  exact ⟨ad, cap, by rw [h3, h2]⟩
theorem GOwn.small {T : TypeId} {k B : Nat} {w : World} {v : Value} {xss : List (List Value)} (h : GOwn T k B w v xss) : xss.length ≤ maxLen := by
  obtain ⟨_, hl, ⟨_, h0⟩ | ⟨g, cap, cur, _, _, _, h3, h4, _⟩⟩ := h
  · omega
  · omega

/-- What Same looks at in a round. -/
structure SM (ba bb ga gb i : Nat) (va vb : Value) (s t : St) (ua ub : Value) (w : World) : Prop where
  a : w.cell? ⟨ba, 1, none⟩ = some va
  b : w.cell? ⟨bb, 1, none⟩ = some vb
  a0 : w.cell? ⟨ga, i * 3, none⟩ = some (.bool s.final)
  a1 : w.cell? ⟨ga, i * 3 + 1, none⟩ = some (.int .i64 s.out)
  a2 : w.cell? ⟨ga, i * 3 + 2, none⟩ = some ua
  b0 : w.cell? ⟨gb, i * 3, none⟩ = some (.bool t.final)
  b1 : w.cell? ⟨gb, i * 3 + 1, none⟩ = some (.int .i64 t.out)
  b2 : w.cell? ⟨gb, i * 3 + 2, none⟩ = some ub
theorem SM.facts {ba bb ga gb i : Nat} {va vb : Value} {s t : St} {ua ub : Value} {w : World} (h : SM ba bb ga gb i va vb s t ua ub w) : w.cell? ⟨ba, 1, none⟩ = some va ∧ w.cell? ⟨bb, 1, none⟩ = some vb ∧ w.cell? ⟨ga, i * 3, none⟩ = some (.bool s.final) ∧ w.cell? ⟨ga, i * 3 + 1, none⟩ = some (.int .i64 s.out) ∧ w.cell? ⟨ga, i * 3 + 2, none⟩ = some ua ∧ w.cell? ⟨gb, i * 3, none⟩ = some (.bool t.final) ∧ w.cell? ⟨gb, i * 3 + 1, none⟩ = some (.int .i64 t.out) ∧ w.cell? ⟨gb, i * 3 + 2, none⟩ = some ub := ⟨h.a, h.b, h.a0, h.a1, h.a2, h.b0, h.b1, h.b2⟩
theorem SM.below {ba bb ga gb i : Nat} {va vb : Value} {s t : St} {ua ub : Value} {w w' : World} (h : SM ba bb ga gb i va vb s t ua ub w) (hb : Below w.heap.size w w') : SM ba bb ga gb i va vb s t ua ub w' := by
  have k : ∀ {g o : Nat} {v : Value}, w.cell? ⟨g, o, none⟩ = some v → w'.cell? ⟨g, o, none⟩ = some v := fun {g o v} h => (hb.cell (p := ⟨g, o, none⟩) (lt_of_cell h)).trans h
  exact ⟨k h.a, k h.b, k h.a0, k h.a1, k h.a2, k h.b0, k h.b1, k h.b2⟩
theorem StRow.small {B : Nat} {w : World} {vs : Value} {b : List St} (h : StRow B w vs b) : b.length ≤ 9223372036854775807 := by
  obtain ⟨xss, h1, h2, _⟩ := h
  have := GOwn.small h1
  rw [h2] at this
  simp only [maxLen] at this
  omega
end Go.Proofs.YthfngcpcccbnpaaDoor

/- FstLevel: the law's own walk. -/
namespace Go.Proofs.YthfngcpcccbnpaaDoor
open Go.RowKit Nums Fm
set_option maxRecDepth 100000

/-- What is fixed behind Build. -/
structure Behind (w wm : World) (mb : Nat) (base : Int) (vs : Value) (b : List St) : Prop where
  bel : Below w.heap.size w wm
  row : StRow w.heap.size wm vs b
  mac : wm.heap[mb]? = some (.cells #[.int .i64 base, vs] 58)
theorem Behind.below {w wm wm' : World} {mb : Nat} {base : Int} {vs : Value} {b : List St} (h : Behind w wm mb base vs b) (hb : Below wm.heap.size wm wm') : Behind w wm' mb base vs b :=
  ⟨h.bel.trans (hb.mono h.bel.size), h.row.below hb, (hb.block mb (Array.getElem?_eq_some_iff.1 h.mac).1).trans h.mac⟩
end Go.Proofs.YthfngcpcccbnpaaDoor

/- The reference's rests in memory: Least, Level, Under. -/
namespace Go.Proofs.YthfngcpcccbnpaaDoor
open Go.RowKit Nums Fm
set_option maxRecDepth 100000

/-- A slice has no more than there is room for. -/
def CapOk : Value → Prop
  | .slice _ n c => n ≤ c
  | _ => False
/-- A row of rests that is read; the runes lie in blocks below E. -/
def RR (E : Nat) (w : World) (v : Value) (S : List En) : Prop :=
  ∃ ad cap, v = .slice ad S.length cap ∧ (0 < S.length → ∃ g off, ad = some ⟨g, off, none⟩ ∧ g < w.heap.size ∧ ∀ i e, S[i]? = some e → ∃ u, EntAt E w g (off + i * 2) u e ∧ CapOk u)
theorem RR.below {E : Nat} {w w' : World} {v : Value} {S : List En} (h : RR E w v S) (hE : E ≤ w.heap.size) (hb : Below w.heap.size w w') : RR E w' v S := by
  obtain ⟨ad, cap, rfl, hc⟩ := h
  refine ⟨ad, cap, rfl, fun h0 => ?_⟩
  obtain ⟨g, off, rfl, hg, hx⟩ := hc h0
  refine ⟨g, off, rfl, Nat.lt_of_lt_of_le hg hb.size, fun i e hi => ?_⟩
  obtain ⟨u, ⟨c0, c1, hr⟩, hk⟩ := hx i e hi
  exact ⟨u, ⟨(hb.cell (p := ⟨g, off + i * 2, none⟩) hg).trans c0, (hb.cell (p := ⟨g, off + i * 2 + 1, none⟩) hg).trans c1, hr.below (hb.mono hE)⟩, hk⟩
theorem RR.form {E : Nat} {w : World} {v : Value} {S : List En} (h : RR E w v S) : ∃ ad cap, v = .slice ad S.length cap := by
  obtain ⟨ad, cap, e, _⟩ := h; exact ⟨ad, cap, e⟩
theorem RR.at {E : Nat} {w : World} {ad : Option Addr} {n cap : Nat} {S : List En} (h : RR E w (.slice ad n cap) S) (h0 : 0 < n) : ∃ g off, ad = some ⟨g, off, none⟩ ∧ g < w.heap.size ∧ ∀ i e, S[i]? = some e → ∃ u, EntAt E w g (off + i * 2) u e ∧ CapOk u := by
  obtain ⟨ad', cap', e, hc⟩ := h
  simp only [Value.slice.injEq] at e
  obtain ⟨rfl, h2, rfl⟩ := e
  exact hc (by omega)
theorem RR.nil (E : Nat) (w : World) : RR E w (.slice none 0 0) [] := ⟨none, 0, rfl, fun h => by simp at h⟩
/-- A row of rests that the call has made. -/
structure RMade (E B : Nat) (w : World) (v : Value) (S : List En) : Prop where
  ex : ∃ xss : List (List Value), GOwn 139 2 B w v xss ∧ xss.length = S.length ∧ ∀ (i : Nat) (e : En), S[i]? = some e → ∃ u, xss[i]? = some [u, .int .i64 e.2] ∧ RunesAt E w u e.1 ∧ CapOk u
theorem RMade.nil (E B : Nat) (w : World) : RMade E B w (.slice none 0 0) [] := ⟨[], GOwn.nil _ _ _ _, rfl, fun i e hi => by simp at hi⟩
theorem RMade.row {E B : Nat} {w : World} {v : Value} {S : List En} (h : RMade E B w v S) : RR E w v S := by
  obtain ⟨xss, ho, hl, hx⟩ := h
  by_cases h0 : 0 < xss.length
  · obtain ⟨g, cap, rfl, hg, _, _, hcell⟩ := ho.cell h0
    refine ⟨_, cap, by rw [hl], fun _ => ⟨g, 0, rfl, hg, fun i e hi => ?_⟩⟩
    obtain ⟨u, hu, hm, hk⟩ := hx i e hi
    exact ⟨u, ⟨by rw [Nat.zero_add]; exact hcell i 0 _ u hu rfl, by rw [Nat.zero_add]; exact hcell i 1 _ _ hu rfl, hm⟩, hk⟩
  · obtain ⟨ad, cap, rfl, _⟩ := ho.shape
    exact ⟨ad, cap, by rw [hl], fun h => absurd h (by omega)⟩
theorem RMade.below {E B : Nat} {w w' : World} {v : Value} {S : List En} (h : RMade E B w v S) (hE : E ≤ w.heap.size) (hb : Below w.heap.size w w') : RMade E B w' v S := by
  obtain ⟨xss, ho, hl, hx⟩ := h
  refine ⟨xss, ho.below hb, hl, fun i e hi => ?_⟩
  obtain ⟨u, h1, h2, h3⟩ := hx i e hi
  exact ⟨u, h1, h2.below (hb.mono hE), h3⟩
/-- One rest more. -/
theorem RMade.push {E B : Nat} {w w' : World} {v' : Value} {S : List En} {e : En} {u : Value} {xss : List (List Value)} (hl : xss.length = S.length) (hx : ∀ (i : Nat) (e : En), S[i]? = some e → ∃ u, xss[i]? = some [u, .int .i64 e.2] ∧ RunesAt E w u e.1 ∧ CapOk u) (hb : Below E w w') (ho : GOwn 139 2 B w' v' (xss ++ [[u, .int .i64 e.2]])) (hu : RunesAt E w u e.1) (hk : CapOk u) : RMade E B w' v' (S ++ [e]) := by
  refine ⟨_, ho, by simp [hl], fun i x hi => ?_⟩
  by_cases hil : i < S.length
  · rw [List.getElem?_append_left hil] at hi
    obtain ⟨y, h1, h2, h3⟩ := hx i x hi
    exact ⟨y, by rw [List.getElem?_append_left (by omega)]; exact h1, h2.below hb, h3⟩
  · rw [List.getElem?_append_right (by omega)] at hi
    cases hi0 : i - S.length with
    | zero =>
      rw [hi0] at hi
      simp only [List.getElem?_cons_zero, Option.some.injEq] at hi
      subst hi
      exact ⟨u, by rw [List.getElem?_append_right (by omega), hl, hi0]; rfl, hu.below hb, hk⟩
    | succ j => rw [hi0] at hi; simp at hi
/-- What a region looks at: one rest. -/
structure SE (g o : Nat) (u : Value) (n : Int) (w : World) : Prop where
  c0 : w.cell? ⟨g, o, none⟩ = some u
  c1 : w.cell? ⟨g, o + 1, none⟩ = some (.int .i64 n)
theorem SE.facts {g o : Nat} {u : Value} {n : Int} {w : World} (h : SE g o u n w) : w.cell? ⟨g, o, none⟩ = some u ∧ w.cell? ⟨g, o + 1, none⟩ = some (.int .i64 n) := ⟨h.c0, h.c1⟩
theorem SE.below {g o : Nat} {u : Value} {n : Int} {w w' : World} {B : Nat} (h : SE g o u n w) (hg : g < B) (hb : Below B w w') : SE g o u n w' := ⟨(hb.cell (p := ⟨g, o, none⟩) hg).trans h.c0, (hb.cell (p := ⟨g, o + 1, none⟩) hg).trans h.c1⟩
end Go.Proofs.YthfngcpcccbnpaaDoor
