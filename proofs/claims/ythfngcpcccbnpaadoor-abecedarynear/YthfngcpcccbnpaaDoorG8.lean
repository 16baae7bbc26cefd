/- Texts that were written apart, joined. -/
import Derived.Test.YthfngcpcccbnpaaDoorGh
import Derived.Test.YthfngcpcccbnpaaDoorG7
import Derived.Deep.QuietTactic
import Derived.BigQuiet
import Derived.Test.YthfngcpcccbnpaaDoorJ7
import Derived.Deep.RegionHeld3
import Derived.Deep.DrawnRows
import Derived.Test.YthfngcpcccbnpaaDoorGd
/- What the reference reckons, in plain numbers. No program is named here. -/
namespace Go.Proofs.YthfngcpcccbnpaaDoor.Nums

/-- The number that so many bytes would say. -/
def sd (l : List UInt8) (n : Nat) : Int :=
  if n = 1 then bt l 0 else if n = 2 then bt l 0 % 32 * 64 + bt l 1 % 64
  else if n = 3 then (bt l 0 % 16 * 64 + bt l 1 % 64) * 64 + bt l 2 % 64
  else ((bt l 0 % 8 * 64 + bt l 1 % 64) * 64 + bt l 2 % 64) * 64 + bt l 3 % 64
end Go.Proofs.YthfngcpcccbnpaaDoor.Nums

/- The reference's Under, same, In, Rests. -/
namespace Go.Proofs.YthfngcpcccbnpaaDoor
open Go.RowKit Nums Fm
set_option maxRecDepth 100000

theorem RunesAt.tail {E : Nat} {w : World} {g o n cap : Nat} {xs : List Int} {ad : Option Addr} {c : Nat} (h : RunesAt E w (.slice (some ⟨g, o, none⟩) n cap) xs) (h0 : 0 < xs.length) (had : n = 1 ∨ ad = some ⟨g, o + 1, none⟩) : RunesAt E w (.slice ad (n - 1) c) xs.tail := by
  obtain ⟨ad', cap', e, hc⟩ := h
  simp only [Value.slice.injEq] at e
  obtain ⟨e1, rfl, rfl⟩ := e
  refine ⟨ad, c, by rw [List.length_tail], fun ht => ?_⟩
  rw [List.length_tail] at ht
  obtain ⟨g', off, e2, hg, hx⟩ := hc h0
  rw [← e1] at e2
  simp only [Option.some.injEq, Addr.mk.injEq, and_true] at e2
  obtain ⟨rfl, rfl⟩ := e2
  refine ⟨g, o + 1, had.resolve_left (by omega), hg, fun i x hi => ?_⟩
  have := hx (i + 1) x (by rw [← List.getElem?_tail]; exact hi)
  rwa [show o + (i + 1) = o + 1 + i by omega] at this
end Go.Proofs.YthfngcpcccbnpaaDoor

/- The reference's same, In, Rests. -/
namespace Go.Proofs.YthfngcpcccbnpaaDoor
open Go.RowKit Nums Fm
set_option maxRecDepth 100000

theorem RunesAt.row {E : Nat} {w : World} {v : Value} {xs : List Int} (h : RunesAt E w v xs) : Row w v xs := by
  obtain ⟨ad, cap, rfl, hc⟩ := h
  refine ⟨ad, cap, rfl, fun h0 => ?_⟩
  obtain ⟨g, off, rfl, _, hx⟩ := hc h0
  refine ⟨g, off, rfl, fun i hi => ?_⟩
  rw [hx i xs[i] (List.getElem?_eq_getElem hi), List.getD_eq_getElem?_getD, List.getElem?_eq_getElem hi]
  rfl
/-- Two rests. -/
structure SE2 (g o g' o' : Nat) (u u' : Value) (w : World) : Prop where
  c0 : w.cell? ⟨g, o, none⟩ = some u
  d0 : w.cell? ⟨g', o', none⟩ = some u'
theorem SE2.facts {g o g' o' : Nat} {u u' : Value} {w : World} (h : SE2 g o g' o' u u' w) : w.cell? ⟨g, o, none⟩ = some u ∧ w.cell? ⟨g', o', none⟩ = some u' := ⟨h.c0, h.d0⟩
end Go.Proofs.YthfngcpcccbnpaaDoor

/- The reference's In, Rests, Rises. -/
namespace Go.Proofs.YthfngcpcccbnpaaDoor
open Go.RowKit Nums Fm
set_option maxRecDepth 100000

/-- Rows of rests, in a row that the call has made. -/
structure AllOwn (E B : Nat) (w : World) (v : Value) (Ds : List (List En)) : Prop where
  ex : ∃ xss : List (List Value), GOwn 106 1 B w v xss ∧ xss.length = Ds.length ∧ ∀ (i : Nat) (R : List En), Ds[i]? = some R → ∃ u, xss[i]? = some [u] ∧ RMade E B w u R
theorem AllOwn.nil (E B : Nat) (w : World) : AllOwn E B w (.slice none 0 0) [] := ⟨[], GOwn.nil _ _ _ _, rfl, fun i R hi => by simp at hi⟩
theorem AllOwn.below {E B : Nat} {w w' : World} {v : Value} {Ds : List (List En)} (h : AllOwn E B w v Ds) (hE : E ≤ w.heap.size) (hb : Below w.heap.size w w') : AllOwn E B w' v Ds := by
  obtain ⟨xss, ho, hl, hx⟩ := h
  refine ⟨xss, ho.below hb, hl, fun i R hi => ?_⟩
  obtain ⟨u, h1, h2⟩ := hx i R hi
  exact ⟨u, h1, h2.below hE hb⟩
theorem AllOwn.shape {E B : Nat} {w : World} {v : Value} {Ds : List (List En)} (h : AllOwn E B w v Ds) : ∃ ad cap, v = .slice ad Ds.length cap := by
  obtain ⟨xss, ho, hl, _⟩ := h
  obtain ⟨ad, cap, e, _⟩ := ho.shape
  exact ⟨ad, cap, by rw [e, hl]⟩
theorem AllOwn.at {E B : Nat} {w : World} {ad : Option Addr} {n cap : Nat} {Ds : List (List En)} (h : AllOwn E B w (.slice ad n cap) Ds) (h0 : 0 < n) : ∃ g, ad = some ⟨g, 0, none⟩ ∧ g < w.heap.size ∧ ∀ (i : Nat) (R : List En), Ds[i]? = some R → ∃ u, w.cell? ⟨g, i, none⟩ = some u ∧ RMade E B w u R := by
  obtain ⟨xss, ho, hl, hx⟩ := h
  obtain ⟨ad', cap', e, _⟩ := ho.shape
  simp only [Value.slice.injEq] at e
  obtain ⟨g, cap2, e2, hg, _, _, hc⟩ := ho.cell (by omega)
  simp only [Value.slice.injEq] at e2
  refine ⟨g, e2.1, hg, fun i R hi => ?_⟩
  obtain ⟨u, h1, h2⟩ := hx i R hi
  refine ⟨u, ?_, h2⟩
  have := hc i 0 _ u h1 rfl
  rwa [Nat.mul_one, Nat.add_zero] at this
/-- Rests that are small. -/
def SmallR (R : List En) : Prop := R.length ≤ 1048576 ∧ ∀ e ∈ R, e.1.length ≤ 1048576
/-- Rests that are being made of words. -/
structure RstsAt (B : Nat) (w : World) (v : Value) (es : List En) : Prop where
  ex : ∃ xss : List (List Value), GOwn 139 2 B w v xss ∧ xss.length = es.length ∧ ∀ (i : Nat) (e : En), es[i]? = some e → ∃ u, xss[i]? = some [u, .int .i64 e.2] ∧ Made B w u e.1
theorem Made.cap {B : Nat} {w : World} {v : Value} {xs : List Int} (h : Made B w v xs) : CapOk v := by
  obtain ⟨_, ⟨e, _⟩ | ⟨g, cap, cur, rfl, _, _, h3, _⟩⟩ := h
  · rw [e]; exact Nat.le_refl _
  · exact h3
theorem RstsAt.row {B : Nat} {w : World} {v : Value} {es : List En} (h : RstsAt B w v es) : RR w.heap.size w v es := by
  obtain ⟨xss, ho, hl, hx⟩ := h
  by_cases h0 : 0 < xss.length
  · obtain ⟨g, cap, rfl, hg, _, _, hcell⟩ := ho.cell h0
    refine ⟨_, cap, by rw [hl], fun _ => ⟨g, 0, rfl, hg, fun i e hi => ?_⟩⟩
    obtain ⟨u, hu, hm⟩ := hx i e hi
    exact ⟨u, ⟨by rw [Nat.zero_add]; exact hcell i 0 _ u hu rfl, by rw [Nat.zero_add]; exact hcell i 1 _ _ hu rfl, hm.runes⟩, hm.cap⟩
  · obtain ⟨ad, cap, rfl, _⟩ := ho.shape
    exact ⟨ad, cap, by rw [hl], fun h => absurd h (by omega)⟩
end Go.Proofs.YthfngcpcccbnpaaDoor

/- The reference's Rises, walked. -/
namespace Go.Proofs.YthfngcpcccbnpaaDoor
open Go.RowKit Nums Fm
set_option maxRecDepth 100000

theorem RMade.mono {E B B' : Nat} {w : World} {v : Value} {S : List En} (h : RMade E B w v S) (hB : B' ≤ B) : RMade E B' w v S := by
  obtain ⟨xss, ho, hl, hx⟩ := h
  exact ⟨xss, ho.mono hB, hl, hx⟩
theorem RMade.kept {E B B' k : Nat} {T : TypeId} {w w' : World} {v u : Value} {S : List En} {yss : List (List Value)} (h : RMade E B w v S) (ho' : GOwn T k B' w u yss) (hT : T ≠ 139) (hg : w.grownBy w' u.ownBlock) (hb : Below E w w') : RMade E B w' v S := by
  obtain ⟨xss, ho, hl, hx⟩ := h
  refine ⟨xss, ho.same fun g hgv => ?_, hl, fun i e hi => ?_⟩
  · obtain ⟨_, cur, hc⟩ := ho.block hgv
    refine hg.block g (ho.lt hgv) fun e => ?_
    obtain ⟨_, cur', hc'⟩ := ho'.block e.symm
    rw [hc] at hc'
    simp only [Option.some.injEq, Obj.cells.injEq] at hc'
    exact hT hc'.2.1.symm
  · obtain ⟨y, h1, h2, h3⟩ := hx i e hi
    exact ⟨y, h1, h2.below hb, h3⟩
/-- Rests that lie below E, or that were made. -/
def RRb (E : Nat) (w : World) (v : Value) (S : List En) : Prop :=
  ∃ ad cap, v = .slice ad S.length cap ∧ (0 < S.length → ∃ g off, ad = some ⟨g, off, none⟩ ∧ g < E ∧ ∀ i e, S[i]? = some e → ∃ u, EntAt E w g (off + i * 2) u e ∧ CapOk u)
structure Und (E : Nat) (w : World) (v : Value) (S : List En) : Prop where
  or : RRb E w v S ∨ RMade E E w v S
theorem RRb.belowE {E : Nat} {w w' : World} {v : Value} {S : List En} (h : RRb E w v S) (hb : Below E w w') : RRb E w' v S := by
  obtain ⟨ad, cap, rfl, hc⟩ := h
  refine ⟨ad, cap, rfl, fun h0 => ?_⟩
  obtain ⟨g, off, rfl, hg, hx⟩ := hc h0
  refine ⟨g, off, rfl, hg, fun i e hi => ?_⟩
  obtain ⟨u, ⟨c0, c1, hr⟩, hk⟩ := hx i e hi
  exact ⟨u, ⟨(hb.cell (p := ⟨g, off + i * 2, none⟩) hg).trans c0, (hb.cell (p := ⟨g, off + i * 2 + 1, none⟩) hg).trans c1, hr.below hb⟩, hk⟩
theorem Und.row {E : Nat} {w : World} {v : Value} {S : List En} (h : Und E w v S) (hE : E ≤ w.heap.size) : RR E w v S := by
  rcases h.or with h | h
  · obtain ⟨ad, cap, rfl, hc⟩ := h
    refine ⟨ad, cap, rfl, fun h0 => ?_⟩
    obtain ⟨g, off, e, hg, hx⟩ := hc h0
    exact ⟨g, off, e, by omega, hx⟩
  · exact h.row
theorem Und.below {E : Nat} {w w' : World} {v : Value} {S : List En} (h : Und E w v S) (hE : E ≤ w.heap.size) (hb : Below w.heap.size w w') : Und E w' v S := by
  rcases h.or with h | h
  · exact ⟨.inl (h.belowE (hb.mono hE))⟩
  · exact ⟨.inr (h.below hE hb)⟩
theorem Und.kept {E B' k : Nat} {T : TypeId} {w w' : World} {v u : Value} {S : List En} {yss : List (List Value)} (h : Und E w v S) (ho' : GOwn T k B' w u yss) (hT : T ≠ 139) (hg : w.grownBy w' u.ownBlock) (hb : Below E w w') : Und E w' v S := by
  rcases h.or with h | h
  · exact ⟨.inl (h.belowE hb)⟩
  · exact ⟨.inr (h.kept ho' hT hg hb)⟩
end Go.Proofs.YthfngcpcccbnpaaDoor

/- The reference's firsts. -/
namespace Go.Proofs.YthfngcpcccbnpaaDoor
open Go.RowKit Nums Fm
set_option maxRecDepth 100000

namespace Fm
end Fm
def cellI (c : Int) : List Value := [.int .i32 c]
def IOwn (B : Nat) (w : World) (v : Value) (xs : List Int) : Prop := GOwn 21 1 B w v (xs.map cellI)
theorem IOwn.last {B : Nat} {w : World} {ad : Option Addr} {n cap : Nat} {xs : List Int} (h : IOwn B w (.slice ad n cap) xs) (h0 : 0 < n) : ∃ g, ad = some ⟨g, 0, none⟩ ∧ n = xs.length ∧ ∃ d, xs.getLast? = some d ∧ w.cell? ⟨g, n - 1, none⟩ = some (.int .i32 d) := by
  obtain ⟨a', c', e, _⟩ := GOwn.shape h
  simp only [List.length_map, Value.slice.injEq] at e
  obtain ⟨e1, e2, e3⟩ := e
  subst e2
  obtain ⟨g, cp, e, _, _, _, hc⟩ := GOwn.cell h (by rw [List.length_map]; exact h0)
  simp only [List.length_map, Value.slice.injEq] at e
  obtain ⟨d, hd⟩ : ∃ d, xs[xs.length - 1]? = some d := ⟨xs[xs.length - 1]'(by omega), List.getElem?_eq_getElem _⟩
  refine ⟨g, e.1, rfl, d, by rw [List.getLast?_eq_getElem?]; exact hd, ?_⟩
  have := hc (xs.length - 1) 0 (cellI d) (.int .i32 d) (by rw [List.getElem?_map, hd]; rfl) rfl
  simpa using this
end Go.Proofs.YthfngcpcccbnpaaDoor
