/- Cut: what the seat's translation lacks is left out. -/
/- WalkAll: the law's own walk. -/
import Derived.Test.YtllmdfkiogmofaaDoorWkTd
import Derived.Test.YtllmdfkiogmofaaDoorSameP
namespace Go.Proofs.YtllmdfkiogmofaaDoor
open Go.RowKit Nums Fm Pk Pm
set_option maxRecDepth 100000

/-- What told says of an iterator's value. -/
def ToldSays (fv : Value) (w1 : World) (L : List Pr) : Prop := ∀ W, Below w1.heap.size w1 W → ∀ most : Int, most ≤ 1048576 → Calls Tryd.prog 10 #[fv, .int .i64 most] W fun e w' => ∃ ad n cap, e = .returned (.slice ad n cap) ∧ PRow w' (.slice ad n cap) (L.take most.toNat) ∧ Below W.heap.size W w'
set_option maxHeartbeats 1000000 in
theorem All_any (w : World) (wb : Nat) (l : List Pr) (h : WkOn w wb l) :
    Calls Tryd.prog 11 #[.pointer (some ⟨wb, 0, none⟩)] w fun e w' => ∃ c0 c1, e = .returned (.func (.func 43) #[] #[.pointer (some ⟨c0, 0, none⟩), .pointer (some ⟨c1, 0, none⟩)]) ∧ Below w.heap.size w w' ∧ ToldSays (.func (.func 43) #[] #[.pointer (some ⟨c0, 0, none⟩), .pointer (some ⟨c1, 0, none⟩)]) w' l := by
  have HFR : Hid (Calls Tryd.prog 24 #[.pointer (some ⟨wb, 0, none⟩), .int .i64 0] w fun e w' => ∃ c0 c1, e = .returned (.func (.func 43) #[] #[.pointer (some ⟨c0, 0, none⟩), .pointer (some ⟨c1, 0, none⟩)]) ∧ Below w.heap.size w w' ∧ ToldSays (.func (.func 43) #[] #[.pointer (some ⟨c0, 0, none⟩), .pointer (some ⟨c1, 0, none⟩)]) w' l) := by
    refine (from_any wb 0 w).mono ?_
    rintro e w' ⟨rfl, t1, t2, hw'⟩
    have hb : Below w.heap.size w w' := by rw [hw']; exact ((Below.refl _ w).alloc (Nat.le_refl _) _).alloc (by simp) _
    have hcw : w'.cell? ⟨w.heap.size, 0, none⟩ = some (.pointer (some ⟨wb, 0, none⟩)) := by rw [hw']; simp
    have hci : w'.cell? ⟨w.heap.size + 1, 0, none⟩ = some (.int .i64 ((0 : Nat) : Int)) := by rw [hw']; simp
    have hsz : w'.heap.size = w.heap.size + 2 := by rw [hw']; simp
    refine ⟨_, _, rfl, hb, fun W hW most hm => ?_⟩
    have hwb : wb < w.heap.size := by obtain ⟨D, _, _, hWk⟩ := h.at'; exact hWk.lt
    have hbW : Below w.heap.size w W := hb.trans (hW.mono hb.size)
    have := toldF_any W _ _ _ _ most hm (from_seq w wb l h w.heap.size (w.heap.size + 1) 0 (by omega)) (fun W' A hW' hA => ⟨hbW.trans (hW'.mono hbW.size), fun j hj => Nat.le_trans hbW.size (hA j hj), (hW'.cell (p := ⟨w.heap.size, 0, none⟩) (by show w.heap.size < _; have := hW.size; omega)).trans ((hW.cell (p := ⟨w.heap.size, 0, none⟩) (by show w.heap.size < _; omega)).trans hcw), (hW'.cell (p := ⟨w.heap.size + 1, 0, none⟩) (by show w.heap.size + 1 < _; have := hW.size; omega)).trans ((hW.cell (p := ⟨w.heap.size + 1, 0, none⟩) (by show w.heap.size + 1 < _; omega)).trans hci), fun ha => by have h1 := hA _ ha; have h2 := hW.size; omega⟩)
    rw [List.drop_zero] at this
    exact this
  clear h
  go_enter Tryd.func11, Tryd.ntmps11
  go_wp2_with (go_at_call 24; refine HFR.out.mono ?_; rintro e w1 ⟨c0, c1, rfl, hb1, hts⟩; have HTS : Hid _ := hts; clear hts)
  go_ret
  exact ⟨c0, c1, rfl, hb1, HTS.out⟩
theorem PRow.take {w : World} {ad : Option Addr} {n cap k : Nat} {l : List Pr} (h : PRow w (.slice ad n cap) l) (hk : k ≤ n) : PRow w (.slice ad k cap) (l.take k) := by
  obtain ⟨ad', cap', e, hc⟩ := h
  simp only [Value.slice.injEq] at e
  obtain ⟨rfl, h2, rfl⟩ := e
  refine ⟨ad, cap, by rw [List.length_take]; congr 1; omega, fun h0 => ?_⟩
  rw [List.length_take] at h0
  obtain ⟨g, off, rfl, hg, hx⟩ := hc (by omega)
  refine ⟨g, off, rfl, hg, fun i x hi => hx i x ?_⟩
  have hlt := (List.getElem?_eq_some_iff.1 hi).1
  rw [List.length_take] at hlt
  rwa [List.getElem?_take_of_lt (by omega)] at hi
theorem wrap_n1 {n : Nat} (h : n ≤ 300) : IntKind.i64.wrap ((n : Int) + 1) = (n : Int) + 1 := by
  first | exact wrap_small _ (by omega) (by omega) | (rw [IntKind.wrap_i64]; exact IntWalk.wrap64_in _ (by omega)) | (rw [IntKind.wrap_i64]; unfold wrap64; omega)
def STr (_ : World) : Prop := True
theorem STr.facts {W : World} (_ : STr W) : True := trivial
end Go.Proofs.YtllmdfkiogmofaaDoor
