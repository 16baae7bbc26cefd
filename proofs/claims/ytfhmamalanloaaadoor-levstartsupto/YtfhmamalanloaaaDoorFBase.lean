/- Cut: what the seat's translation lacks is left out. -/
/- Words as runes in memory; least and alike. -/
import Derived.Test.YtfhmamalanloaaaDoorFMath
import Derived.Test.YtfhmamalanloaaaDoorPRows
import Derived.Test.YtfhmamalanloaaaDoorRunes
import Derived.Deep.QuietTactic
import Derived.BigQuiet
import Derived.Deep.Cut
namespace Go.Proofs.YtfhmamalanloaaaDoor
open Go.RowKit Nums Fm
set_option maxRecDepth 100000

/-- A row of runes that is read, in a block below E. -/
def RunesAt (E : Nat) (w : World) (v : Value) (xs : List Int) : Prop :=
  ∃ ad cap, v = .slice ad xs.length cap ∧ (0 < xs.length → ∃ g off, ad = some ⟨g, off, none⟩ ∧ g < E ∧ ∀ i x, xs[i]? = some x → w.cell? ⟨g, off + i, none⟩ = some (.int .i32 x))
theorem RunesAt.below {E : Nat} {w w' : World} {v : Value} {xs : List Int} (h : RunesAt E w v xs) (hb : Below E w w') : RunesAt E w' v xs := by
  obtain ⟨ad, cap, rfl, hc⟩ := h
  refine ⟨ad, cap, rfl, fun h0 => ?_⟩
  obtain ⟨g, off, rfl, hg, hx⟩ := hc h0
  exact ⟨g, off, rfl, hg, fun i x hi => (hb.cell (p := ⟨g, off + i, none⟩) hg).trans (hx i x hi)⟩
theorem RunesAt.mono {E E' : Nat} {w : World} {v : Value} {xs : List Int} (h : RunesAt E w v xs) (he : E ≤ E') : RunesAt E' w v xs := by
  obtain ⟨ad, cap, rfl, hc⟩ := h
  refine ⟨ad, cap, rfl, fun h0 => ?_⟩
  obtain ⟨g, off, rfl, hg, hx⟩ := hc h0
  exact ⟨g, off, rfl, by omega, hx⟩
/-- An entry's two cells. -/
structure EntAt (E : Nat) (w : World) (g o : Nat) (v : Value) (e : En) : Prop where
  c0 : w.cell? ⟨g, o, none⟩ = some v
  c1 : w.cell? ⟨g, o + 1, none⟩ = some (.int .i64 e.2)
  rn : RunesAt E w v e.1
/-- A row of entries that is read, all in blocks below E. -/
def ERow (E : Nat) (w : World) (v : Value) (l : List En) : Prop :=
  ∃ ad cap, v = .slice ad l.length cap ∧ l.length ≤ cap ∧ (0 < l.length → ∃ g off, ad = some ⟨g, off, none⟩ ∧ g < E ∧ ∀ i e, l[i]? = some e → ∃ u, EntAt E w g (off + i * 2) u e)
theorem EntAt.below {E : Nat} {w w' : World} {g o : Nat} {v : Value} {e : En} (h : EntAt E w g o v e) (hg : g < E) (hb : Below E w w') : EntAt E w' g o v e :=
  ⟨(hb.cell (p := ⟨g, o, none⟩) hg).trans h.c0, (hb.cell (p := ⟨g, o + 1, none⟩) hg).trans h.c1, h.rn.below hb⟩
theorem ERow.below {E : Nat} {w w' : World} {v : Value} {l : List En} (h : ERow E w v l) (hb : Below E w w') : ERow E w' v l := by
  obtain ⟨ad, cap, rfl, h1, hc⟩ := h
  refine ⟨ad, cap, rfl, h1, fun h0 => ?_⟩
  obtain ⟨g, off, rfl, hg, hx⟩ := hc h0
  refine ⟨g, off, rfl, hg, fun i e hi => ?_⟩
  obtain ⟨u, hu⟩ := hx i e hi
  exact ⟨u, hu.below hg hb⟩
theorem ERow.at {E : Nat} {w : World} {ad : Option Addr} {n cap : Nat} {l : List En} (h : ERow E w (.slice ad n cap) l) (h0 : 0 < n) : ∃ g off, ad = some ⟨g, off, none⟩ ∧ g < E ∧ n ≤ cap ∧ ∀ i e, l[i]? = some e → ∃ u, EntAt E w g (off + i * 2) u e := by
  obtain ⟨ad', cap', e, h1, hc⟩ := h
  simp only [Value.slice.injEq] at e
  obtain ⟨rfl, h2, rfl⟩ := e
  obtain ⟨g, off, h3, h4, h5⟩ := hc (by omega)
  exact ⟨g, off, h3, h4, by omega, h5⟩
theorem ERow.form {E : Nat} {w : World} {v : Value} {l : List En} (h : ERow E w v l) : ∃ ad cap, v = .slice ad l.length cap ∧ l.length ≤ cap := by
  obtain ⟨ad, cap, e, h1, _⟩ := h; exact ⟨ad, cap, e, h1⟩
theorem leastF_snoc {l : List En} {k : Nat} {e : En} (h : l[k]? = some e) (m : Int) : leastF m (l.take (k + 1)) = if e.2 < leastF m (l.take k) then e.2 else leastF m (l.take k) := by
  have key : ∀ (l : List En) (m : Int) (e : En), leastF m (l ++ [e]) = if e.2 < leastF m l then e.2 else leastF m l := by
    intro l
    induction l with
    | nil => intro m e; rfl
    | cons x r ih => intro m e; rw [List.cons_append, leastF, ih, leastF]
  rw [List.take_add_one, h]
  exact key _ _ _

theorem RunesAt.get {E : Nat} {w : World} {ad : Option Addr} {n cap : Nat} {xs : List Int} (h : RunesAt E w (.slice ad n cap) xs) {k : Nat} (hk : k < xs.length) : ∃ g off, ad = some ⟨g, off, none⟩ ∧ n = xs.length ∧ w.cell? ⟨g, off + k, none⟩ = some (.int .i32 ((xs.drop k).headD 0)) := by
  obtain ⟨ad', cap', e, hc⟩ := h
  simp only [Value.slice.injEq] at e
  obtain ⟨rfl, rfl, rfl⟩ := e
  obtain ⟨g, off, rfl, _, hx⟩ := hc (by omega)
  refine ⟨g, off, rfl, rfl, ?_⟩
  have := hx k xs[k] (List.getElem?_eq_getElem hk)
  rw [this, List.headD_eq_head?_getD, List.head?_drop, List.getElem?_eq_getElem hk]
  rfl
theorem lead_step {c : Int} {k j : Nat} {l : List En} {e : En} (h : l[j]? = some e) : lead c (cut k (l.drop j)) = if hd (e.1.drop k, e.2) = c then lead c (cut k (l.drop (j + 1))) + 1 else 0 := by
  obtain ⟨hj, rfl⟩ := List.getElem?_eq_some_iff.1 h
  rw [List.drop_eq_getElem_cons hj, cut_cons, lead]
end Go.Proofs.YtfhmamalanloaaaDoor
