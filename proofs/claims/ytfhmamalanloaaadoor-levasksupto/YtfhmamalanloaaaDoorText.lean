/- Cut: what the seat's translation lacks is left out. -/
/- letters.Text: the writing of a row of runes, or none. -/
import Derived.Test.YtfhmamalanloaaaDoorAppend
import Derived.Laws.BytesArg
namespace Go.Proofs.YtfhmamalanloaaaDoor
open Go.RowKit Nums
set_option maxRecDepth 100000

/-- A slice of numbers that lies in memory: nothing is said of who made it. -/
def Row (w : World) (v : Value) (xs : List Int) : Prop :=
  ∃ ao cap, v = .slice ao xs.length cap ∧ (0 < xs.length → ∃ b off, ao = some ⟨b, off, none⟩ ∧ ∀ i, i < xs.length → w.cell? ⟨b, off + i, none⟩ = some (.int .i32 (xs.getD i 0)))

theorem Bytes.back {B : Nat} {w : World} {v : Value} {xs : List Int} (h : Bytes B w v xs) : (convert 66 9 v).run Tryd.prog w = .ok (.string (strOfNums xs)) w := by
  obtain ⟨hl, hn | ⟨g, cap, cur, rfl, hb, hg, h1, h2, h3, h4⟩⟩ := h
  · obtain ⟨rfl, h0⟩ := hn
    have e : xs = [] := List.length_eq_zero_iff.1 h0
    subst e
    exact run_convert_bytes_nil w 66 5 Tryd.underlying66 Tryd.underlying5 0 0 9 Tryd.underlying9
  · refine run_convert_bytes_arg w 66 5 Tryd.underlying66 Tryd.underlying5 g 0 xs.length cap xs rfl (fun i hi => ?_) 9 Tryd.underlying9
    have hc : cur[i]? = some (.int .u8 (xs.getD i 0)) := by
      have e : (cur.toList.take (xs.length * 1))[i]? = (xs.map (Value.int .u8))[i]? := by rw [h4]
      rw [List.getElem?_take, if_pos (by omega)] at e
      rw [← Array.getElem?_toList, e, List.getElem?_map, List.getElem?_eq_getElem hi]
      simp [List.getD_eq_getElem?_getD, List.getElem?_eq_getElem hi]
    simp only [World.cell?, hg, Nat.zero_add]
    simpa using hc

def allR (xs : List Int) : Bool := xs.all isR
def textS (xs : List Int) : ByteArray := if allR xs = true then strOfNums (xs.flatMap wrI) else ByteArray.empty

theorem flat_len (xs : List Int) : (xs.flatMap wrI).length ≤ 4 * xs.length := by
  induction xs with
  | nil => simp
  | cons x r ih => have := wrI_len x; rw [List.flatMap_cons, List.length_append, List.length_cons]; omega
theorem take_next (xs : List Int) (k : Nat) (h : k < xs.length) : xs.take (k + 1) = xs.take k ++ [xs.getD k 0] := by
  rw [List.take_succ_eq_append_getElem h]; simp [List.getD_eq_getElem?_getD, List.getElem?_eq_getElem h]
theorem text_no {xs : List Int} {k : Nat} (h : k < xs.length) (hr : isR (xs.getD k 0) = false) : allR xs = false := by
  have hm : xs.getD k 0 ∈ xs := by simp [List.getD_eq_getElem?_getD, List.getElem?_eq_getElem h]
  cases e : allR xs
  · rfl
  · have := List.all_eq_true.1 e _ hm; rw [hr] at this; cases this
theorem isR_bd {r : Int} (h : isR r = true) : 0 ≤ r ∧ r < 1114112 := by
  have := of_decide_eq_true h; omega

end Go.Proofs.YtfhmamalanloaaaDoor
