/- Texts that were written apart, joined. -/
import Derived.Test.YtllmdfkiogmofaaGreatDoorJ6
import Derived.Handy
import Derived.Carry
import Derived.Test.YtllmdfkiogmofaaGreatDoorJ7
import Derived.Test.YtllmdfkiogmofaaGreatDoorJ4
/- Cut: what the seat's translation lacks is left out. -/
/- fst.Build, walked. -/
namespace Go.Proofs.YtllmdfkiogmofaaGreatDoor
open Go.RowKit Nums Fm
set_option maxRecDepth 100000

theorem two_set {w : World} {b : Nat} {a0 a1 : Value} {T : TypeId} {q : Nat × Nat} (h : w.heap[b]? = some (.cells #[a0, a1] T q)) (x y : Value) : ((w.setCell ⟨b, 0, none⟩ x).setCell ⟨b, 1, none⟩ y).cell? ⟨b, 0, none⟩ = some x ∧ ((w.setCell ⟨b, 0, none⟩ x).setCell ⟨b, 1, none⟩ y).cell? ⟨b, 1, none⟩ = some y := by
  have h1 := set_at (o := 0) h x
  have h2 := set_at (o := 1) h1 y
  refine ⟨?_, ?_⟩
  · simp only [World.cell?, h2]; rfl
  · simp only [World.cell?, h2]; rfl
/-- What region 11 looks at. -/
def SB (g : Nat) (vs : Value) (w : World) : Prop := w.cell? ⟨g, 0, none⟩ = some vs
theorem SB.facts {g : Nat} {vs : Value} {w : World} (h : SB g vs w) : w.cell? ⟨g, 0, none⟩ = some vs := h
end Go.Proofs.YtllmdfkiogmofaaGreatDoor

/- Machines in memory, as they are read. -/
namespace Go.Proofs.YtllmdfkiogmofaaGreatDoor
open Go.RowKit Nums Fm Pk
set_option maxRecDepth 100000

/-- A row of structs that is read, in a block below E. -/
structure GRow (E k : Nat) (w : World) (v : Value) (xss : List (List Value)) : Prop where
  ex : ∃ ad cap, v = .slice ad xss.length cap ∧ (0 < xss.length → ∃ g off, ad = some ⟨g, off, none⟩ ∧ g < E ∧ ∀ (i j : Nat) (x : List Value) (u : Value), xss[i]? = some x → x[j]? = some u → w.cell? ⟨g, off + i * k + j, none⟩ = some u)
theorem GRow.below {E k : Nat} {w w' : World} {v : Value} {xss : List (List Value)} (h : GRow E k w v xss) (hb : Below E w w') : GRow E k w' v xss := by
  obtain ⟨ad, cap, rfl, hc⟩ := h.ex
  refine ⟨ad, cap, rfl, fun h0 => ?_⟩
  obtain ⟨g, off, rfl, hg, hx⟩ := hc h0
  exact ⟨g, off, rfl, hg, fun i j x u hi hj => (hb.cell (p := ⟨g, off + i * k + j, none⟩) hg).trans (hx i j x u hi hj)⟩
theorem GRow.mono {E E' k : Nat} {w : World} {v : Value} {xss : List (List Value)} (h : GRow E k w v xss) (hE : E ≤ E') : GRow E' k w v xss := by
  obtain ⟨ad, cap, rfl, hc⟩ := h.ex
  refine ⟨ad, cap, rfl, fun h0 => ?_⟩
  obtain ⟨g, off, rfl, hg, hx⟩ := hc h0
  exact ⟨g, off, rfl, Nat.lt_of_lt_of_le hg hE, hx⟩
theorem GRow.shape {E k : Nat} {w : World} {v : Value} {xss : List (List Value)} (h : GRow E k w v xss) : ∃ ad cap, v = .slice ad xss.length cap := by
  obtain ⟨ad, cap, rfl, _⟩ := h.ex
  exact ⟨ad, cap, rfl⟩
theorem GOwn.reads {T : TypeId} {k B : Nat} {w : World} {v : Value} {xss : List (List Value)} (h : GOwn T k B w v xss) : GRow w.heap.size k w v xss := by
  obtain ⟨ad, cap, hv, _⟩ := h.shape
  refine ⟨ad, cap, hv, fun h0 => ?_⟩
  obtain ⟨g, c2, hv2, hg, _, _, hc⟩ := h.cell h0
  rw [hv] at hv2
  simp only [Value.slice.injEq] at hv2
  exact ⟨g, 0, hv2.1, hg, fun i j x u hi hj => by rw [Nat.zero_add]; exact hc i j x u hi hj⟩
def cellsRA (a : RArc) : List Value := [.int .i32 a.label, .int .i64 a.out, .int .i64 a.to]
def OkRA (a : RArc) : Prop := Fits32 a.label ∧ Fits64 a.out ∧ Fits64 a.to
/-- Arcs that are read. -/
structure ArcsAt (E : Nat) (w : World) (va : Value) (l : List RArc) : Prop where
  row : GRow E 3 w va (l.map cellsRA)
  ok : ∀ a ∈ l, OkRA a
  len : l.length ≤ 9223372036854775807
theorem ArcsAt.below {E : Nat} {w w' : World} {va : Value} {l : List RArc} (h : ArcsAt E w va l) (hb : Below E w w') : ArcsAt E w' va l := ⟨h.row.below hb, h.ok, h.len⟩
theorem ArcsAt.shape {E : Nat} {w : World} {va : Value} {l : List RArc} (h : ArcsAt E w va l) : ∃ ad cap, va = .slice ad l.length cap := by
  obtain ⟨ad, cap, h1⟩ := h.row.shape
  exact ⟨ad, cap, by rw [h1, List.length_map]⟩
/-- One arc's cells. -/
theorem ArcsAt.at {E : Nat} {w : World} {ad : Option Addr} {n cap : Nat} {l : List RArc} (h : ArcsAt E w (.slice ad n cap) l) {k : Nat} {a : RArc} (ha : l[k]? = some a) : ∃ g off, ad = some ⟨g, off, none⟩ ∧ g < E ∧ w.cell? ⟨g, off + k * 3, none⟩ = some (.int .i32 a.label) ∧ w.cell? ⟨g, off + k * 3 + 1, none⟩ = some (.int .i64 a.out) ∧ w.cell? ⟨g, off + k * 3 + 2, none⟩ = some (.int .i64 a.to) := by
  obtain ⟨ad', cap', hv, hc⟩ := h.row.ex
  simp only [Value.slice.injEq] at hv
  have hk := (List.getElem?_eq_some_iff.1 ha).1
  obtain ⟨g, off, rfl, hg, hx⟩ := hc (by rw [List.length_map]; omega)
  have e : (l.map cellsRA)[k]? = some (cellsRA a) := by rw [List.getElem?_map, ha]; rfl
  exact ⟨g, off, hv.1, hg, hx k 0 _ _ e rfl, hx k 1 _ _ e rfl, hx k 2 _ _ e rfl⟩
/-- States that are read. -/
structure StsAt (E : Nat) (w : World) (vs : Value) (m : List RSt) : Prop where
  ex : ∃ xss, GRow E 3 w vs xss ∧ xss.length = m.length ∧ ∀ (i : Nat) (s : RSt), m[i]? = some s → ∃ va, xss[i]? = some [.bool s.final, .int .i64 s.out, va] ∧ ArcsAt E w va s.arcs
  ok : ∀ s ∈ m, Fits64 s.out
  len : m.length ≤ 9223372036854775807
theorem StsAt.below {E : Nat} {w w' : World} {vs : Value} {m : List RSt} (h : StsAt E w vs m) (hb : Below E w w') : StsAt E w' vs m := by
  obtain ⟨xss, h1, h2, h3⟩ := h.ex
  refine ⟨⟨xss, h1.below hb, h2, fun i s hi => ?_⟩, h.ok, h.len⟩
  obtain ⟨va, e1, e2⟩ := h3 i s hi
  exact ⟨va, e1, e2.below hb⟩
theorem StsAt.shape {E : Nat} {w : World} {vs : Value} {m : List RSt} (h : StsAt E w vs m) : ∃ ad cap, vs = .slice ad m.length cap := by
  obtain ⟨xss, h1, h2, _⟩ := h.ex
  obtain ⟨ad, cap, e⟩ := h1.shape
  exact ⟨ad, cap, by rw [e, h2]⟩
/-- One state's cells. -/
theorem StsAt.at {E : Nat} {w : World} {ad : Option Addr} {n cap : Nat} {m : List RSt} (h : StsAt E w (.slice ad n cap) m) {k : Nat} {s : RSt} (hs : m[k]? = some s) : ∃ g off va, ad = some ⟨g, off, none⟩ ∧ g < E ∧ w.cell? ⟨g, off + k * 3, none⟩ = some (.bool s.final) ∧ w.cell? ⟨g, off + k * 3 + 1, none⟩ = some (.int .i64 s.out) ∧ w.cell? ⟨g, off + k * 3 + 2, none⟩ = some va ∧ ArcsAt E w va s.arcs := by
  obtain ⟨xss, h1, h2, h3⟩ := h.ex
  obtain ⟨ad', cap', hv, hc⟩ := h1.ex
  simp only [Value.slice.injEq] at hv
  have hk := (List.getElem?_eq_some_iff.1 hs).1
  obtain ⟨g, off, rfl, hg, hx⟩ := hc (by omega)
  obtain ⟨va, e1, e2⟩ := h3 k s hs
  exact ⟨g, off, va, hv.1, hg, hx k 0 _ _ e1 rfl, hx k 1 _ _ e1 rfl, hx k 2 _ _ e1 rfl, e2⟩
end Go.Proofs.YtllmdfkiogmofaaGreatDoor

/- A region that draws its order: an operation that is not wanted. -/
namespace Go.Proofs.YtllmdfkiogmofaaGreatDoor
open Go.RowKit
variable {P : Program} {md : Region.Mode} {ops : Array Oper} {Q : Exit → Act → World → Prop} {S : World → Prop}
theorem pass_at {i : Nat} {oi : Oper} {fuel : Nat} {listed : Array Bool} {tmps : Array Value} {df : List Deferred} {w : World} (t : Tmp) (hi : ops[i]? = some oi) (hd : oi.dst = some t)
    (hs : Region.noSelect ops = true) (hf : Region.free md ops listed i = true) (hr : (Region.ready md ops listed).contains i = true)
    (hQ : ∀ c a w, Q (.panic c) (a.put oi.dst undef) w → Q (.panic c) a w) (hw : Region.wanted oi (yielded ops tmps) = false) (hS : S w)
    (h : wpAnyH P md ops Q S fuel (listed.setIfInBounds i true) { tmps := tmps.setIfInBounds t undef, defers := df } w) : wpAnyH P md ops Q S (fuel + 1) listed { tmps := tmps, defers := df } w := by
  refine wpAnyH_take hi hs hf hr hQ (.inr ⟨hw, rfl⟩) hS ?_
  rw [hd]; exact h
end Go.Proofs.YtllmdfkiogmofaaGreatDoor
