/- FuzzyAll: the law's own walk. -/
import Derived.Test.YthfngcpcccbnpaaDoorF3
namespace Go.Proofs.YthfngcpcccbnpaaDoor
open Go.RowKit Go.Shelf Go.Lib Nums Fm Pk Pm Fz Ed Lv
set_option maxRecDepth 100000

/-- What All comes to. -/
def allL (l : List Pr) (word : List UInt8) (e : Int) : List Mt := if Go.Proofs.YthfngcpcccbnpaaDoor.rightB word e = true then nearOf ((rs word).getD []) e.toNat l else []
def allC (word : List UInt8) (e : Int) : Int := if Go.Proofs.YthfngcpcccbnpaaDoor.rightB word e = true then 0 else 110
theorem AllSays.told {w w' : World} {l : List Pr} {word : List UInt8} {e : Int} {v : Value} {c : Int} (h : AllSays w w' l word e v c) : c = allC word e ∧ GOwn 35 3 w.heap.size w' v ((allL l word e).map cellsM) ∧ Below w.heap.size w w' := by
  obtain ⟨hb, ⟨hr, rfl, rfl⟩ | ⟨hr, rfl, xs, d, hx, rfl, _, _, hG⟩⟩ := h
  · refine ⟨by rw [allC, hr]; rfl, ?_, hb⟩
    rw [allL, hr]
    exact GOwn.nil _ _ _ _
  · refine ⟨by rw [allC, hr]; rfl, ?_, hb⟩
    rw [allL, if_pos hr, hx]
    exact hG
/-- All, as a law asks it. -/
theorem All_told (w : World) (wb : Nat) (l : List Pr) (hon : WkOn w wb l) (word : ByteArray) (e : Int) (hm : word.size ≤ 9223372036854775807) :
    Calls Tryd.prog 10 #[.pointer (some ⟨wb, 0, none⟩), .string word, .int .i64 e] w fun x w' => ∃ ad cap, x = .returned (.tuple #[.slice ad (allL l word.data.toList e).length cap, .int .i64 (allC word.data.toList e)]) ∧ MRow w' (.slice ad (allL l word.data.toList e).length cap) (allL l word.data.toList e) ∧ Below w.heap.size w w' := by
  refine (All_any w wb l hon word e hm).mono ?_
  rintro x w' ⟨v, c, rfl, h⟩
  obtain ⟨rfl, hG, hb⟩ := h.told
  obtain ⟨ad, cap, hv, _⟩ := GOwn.shape hG
  rw [List.length_map] at hv
  subst hv
  exact ⟨ad, cap, rfl, GOwn.reads hG, hb⟩
end Go.Proofs.YthfngcpcccbnpaaDoor
