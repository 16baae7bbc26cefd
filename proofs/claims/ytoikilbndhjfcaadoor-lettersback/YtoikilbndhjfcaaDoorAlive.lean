/- The law's own 'alive': it is true. -/
import Derived.Test.YtoikilbndhjfcaaDoorText
namespace Go.Proofs.YtoikilbndhjfcaaDoor
open Go.RowKit Nums
set_option maxRecDepth 100000

/-- What is owned can be read. -/
theorem Made.row {B : Nat} {w : World} {v : Value} {xs : List Int} (h : Made B w v xs) : Row w v xs := by
  obtain ⟨hl, hn | ⟨g, cap, cur, rfl, hb, hg, h1, h2, h3, h4⟩⟩ := h
  · obtain ⟨rfl, h0⟩ := hn
    refine ⟨none, 0, by rw [h0], fun h => by omega⟩
  · refine ⟨_, _, rfl, fun _ => ⟨g, 0, rfl, fun i hi => ?_⟩⟩
    have hc : cur[i]? = some (.int .i32 (xs.getD i 0)) := by
      have e : (cur.toList.take (xs.length * 1))[i]? = (xs.map (Value.int .i32))[i]? := by rw [h4]
      rw [List.getElem?_take, if_pos (by omega)] at e
      rw [← Array.getElem?_toList, e, List.getElem?_map, List.getElem?_eq_getElem hi]
      simp [List.getD_eq_getElem?_getD, List.getElem?_eq_getElem hi]
    simp only [World.cell?, hg, Nat.zero_add]
    simpa using hc
/-- What could be read can be read still. -/
theorem Row.below {w w' : World} {v : Value} {xs : List Int} (h : Row w v xs) (hb : Below w.heap.size w w') : Row w' v xs := by
  obtain ⟨ao, cap, rfl, hc⟩ := h
  refine ⟨ao, cap, rfl, fun h0 => ?_⟩
  obtain ⟨b, off, rfl, hd⟩ := hc h0
  exact ⟨b, off, rfl, fun i hi => (hb.cell (p := ⟨b, off + i, none⟩) (lt_of_cell (hd i hi))).trans (hd i hi)⟩
/-- A row of one new number. -/
theorem row_one (w : World) (r : Int) : Row (w.alloc (Obj.cells #[Value.int .i32 r] 21)) (.slice (some ⟨w.heap.size, 0, none⟩) 1 1) [r] := by
  refine ⟨_, _, rfl, fun _ => ⟨w.heap.size, 0, rfl, fun i hi => ?_⟩⟩
  simp at hi
  subst hi
  simp

theorem rs_ae : rs [97, 195, 169] = some [97, 233] := by decide +kernel
theorem text_euro : allR [8364] = true ∧ textS [8364] = ⟨#[226, 130, 172]⟩ := by decide +kernel
theorem word_x : wordB [120] = true := by decide +kernel

set_option maxHeartbeats 2000000 in
theorem alive_any (w : World) (ht : Tabs w) : Calls Tryd.prog 11 #[] w fun e w' => e = .returned (.bool true) ∧ Below w.heap.size w w' := by
  go_enter Tryd.func11, Tryd.ntmps11
  go_wp2_with fail
  refine (Runes_any _ _ ht (by decide) (room_of_length (by decide))).mono ?_
  rintro e w1 ⟨v1, hb1, ⟨h, _⟩ | ⟨xs, h, rfl, hm⟩⟩
  · exact absurd (h.symm.trans rs_ae) (by simp)
  obtain rfl : xs = [97, 233] := Option.some.inj (h.symm.trans rs_ae)
  obtain ⟨ao, cap, rfl, hc⟩ := hm.row
  obtain ⟨b, off, rfl, hd⟩ := hc (by decide)
  have hc1 : w1.cell? ⟨b, off + 1, none⟩ = some (.int .i32 233) := hd 1 (by decide)
  clear hc hd h hm
  have hlt := lt_of_cell hc1
  go_wp2_with fail
  refine (Text_any _ [8364] _ ((ht.below hb1).below ((Below.refl _ _).alloc (Nat.le_refl _) _)) (row_one w1 8364) (by decide)).mono ?_
  rintro e w2 ⟨rfl, hb2⟩
  rw [text_euro.1, text_euro.2]
  have hb3 : Below w.heap.size w w2 := (hb1.alloc hb1.size _).trans (hb2.mono (by have := hb1.size; simp; omega))
  have hc2 : w2.cell? ⟨b, off + 1, none⟩ = some (.int .i32 233) := by
    rw [hb2.cell (p := ⟨b, off + 1, none⟩) (by simp; omega)]
    rw [World.cell?_alloc_lt _ _ _ hlt]; exact hc1
  clear hb2 hc1
  go_wp2_with fail
  refine (Word_any _ _ (ht.below hb3) (by decide)).mono ?_
  rintro e w3 ⟨rfl, n3, rfl⟩
  rw [word_x]
  go_wp2
  go_ret
  exact ⟨rfl, below_drewN hb3 _⟩
end Go.Proofs.YtoikilbndhjfcaaDoor
