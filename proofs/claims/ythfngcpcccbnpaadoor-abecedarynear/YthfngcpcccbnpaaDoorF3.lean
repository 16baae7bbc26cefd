/- Texts that were written apart, joined. -/
import Derived.Test.YthfngcpcccbnpaaDoorF2
import Derived.Test.YthfngcpcccbnpaaDoorE3
import Derived.Test.YthfngcpcccbnpaaDoorR0
import Derived.Test.YthfngcpcccbnpaaDoorG7
import Derived.Test.YthfngcpcccbnpaaDoorG8
import Derived.Deep.RegionHeld3
import Derived.Deep.DrawnRows
import Derived.Deep.QuietTactic
import Derived.BigQuiet
import Derived.Test.YthfngcpcccbnpaaDoorJ7
import Derived.Laws.StructEq
/- The law's on; the reference's All and Same. -/
namespace Go.Proofs.YthfngcpcccbnpaaDoor
open Go.RowKit Go.Shelf Go.Lib Nums Fm Pk Pm Fz Ed Lv
set_option maxRecDepth 100000

/-- A row of matches that is read. -/
def MRow (w : World) (v : Value) (l : List Mt) : Prop := GRow w.heap.size 3 w v (l.map cellsM)
theorem MRow.below {w w' : World} {v : Value} {l : List Mt} (h : MRow w v l) (hb : Below w.heap.size w w') : MRow w' v l := (GRow.below h hb).mono hb.size
theorem MRow.form {w : World} {v : Value} {l : List Mt} (h : MRow w v l) : ∃ ad cap, v = .slice ad l.length cap := by
  obtain ⟨ad, cap, e⟩ := GRow.shape h
  exact ⟨ad, cap, by rw [e, List.length_map]⟩
theorem MRow.at {w : World} {ad : Option Addr} {n cap : Nat} {l : List Mt} (h : MRow w (.slice ad n cap) l) (h0 : 0 < l.length) : ∃ g off, ad = some ⟨g, off, none⟩ ∧ g < w.heap.size ∧ ∀ k x, l[k]? = some x → w.cell? ⟨g, off + k * 3, none⟩ = some (.string x.1) ∧ w.cell? ⟨g, off + k * 3 + 1, none⟩ = some (.int .i64 x.2.1) ∧ w.cell? ⟨g, off + k * 3 + 2, none⟩ = some (.int .i64 x.2.2) := by
  obtain ⟨ad', cap', hv, hc⟩ := h.ex
  simp only [Value.slice.injEq] at hv
  obtain ⟨g, off, rfl, hg, hx⟩ := hc (by rw [List.length_map]; omega)
  refine ⟨g, off, hv.1, hg, fun k x hk => ?_⟩
  have e : (l.map cellsM)[k]? = some (cellsM x) := by rw [List.getElem?_map, hk]; rfl
  exact ⟨hx k 0 _ _ e rfl, hx k 1 _ _ e rfl, hx k 2 _ _ e rfl⟩
end Go.Proofs.YthfngcpcccbnpaaDoor

/- The reference's All; the law's alive. -/
namespace Go.Proofs.YthfngcpcccbnpaaDoor
open Go.RowKit Go.Shelf Go.Lib Nums Fm Pk Pm Fz Ed Lv
set_option maxRecDepth 100000

/-- The distance of a dictionary's word. -/
theorem ds_word {x : Pr} {word : ByteArray} {xs : List Int} (hw : wordB x.1.data.toList = true) (hx : rs word.data.toList = some xs) (hl : xs.length ≤ 24) : dsE x.1.data.toList word.data.toList = some (lv (entOf x).1 xs) := by
  obtain ⟨ys, h1, _, h3, _⟩ := word_runes hw
  have e : (entOf x).1 = ys := by rw [entOf, h1]; rfl
  rw [e]
  exact dsE_some (rsE_some h1 (by omega)) (rsE_some hx (by omega))
def SRA (g p : Nat) (x : Pr) (W : World) : Prop := W.cell? ⟨g, p, none⟩ = some (.string x.1) ∧ W.cell? ⟨g, p + 1, none⟩ = some (.int .i64 x.2)
theorem SRA.facts {g p : Nat} {x : Pr} {W : World} (h : SRA g p x W) : W.cell? ⟨g, p, none⟩ = some (.string x.1) ∧ W.cell? ⟨g, p + 1, none⟩ = some (.int .i64 x.2) := h
end Go.Proofs.YthfngcpcccbnpaaDoor
