/- A walk in memory; its root, its base, how many words. -/
import Derived.Test.YtncnefpkfbngaaaGreatDoorWkY
import Derived.Test.YtncnefpkfbngaaaGreatDoorWkMath
import Derived.Test.YtncnefpkfbngaaaGreatDoorG0
import Derived.Test.YtncnefpkfbngaaaGreatDoorDrawn8
namespace Go.Proofs.YtncnefpkfbngaaaGreatDoor
open Go.RowKit Nums Fm Pk
set_option maxRecDepth 100000

def cellsN (c : Nat) : List Value := [.int .i64 (c : Int)]
theorem rtyN : RTy 3 90 1 8 := ⟨by kernel_rfl, ⟨.int .i64 0, by kernel_rfl, rfl⟩, by decide, by decide⟩
/-- A walk that is read. -/
structure WkAt (E : Nat) (w : World) (wb : Nat) (base : Int) (m : List RSt) (cs : List Nat) : Prop where
 lt : wb < E
 ex : ∃ vs vw, w.heap[wb]? = some (.cells #[.int .i64 base, vs, vw] 93) ∧ StsAt E w vs m ∧ GRow E 1 w vw (cs.map cellsN)
theorem WkAt.below {E : Nat} {w w' : World} {wb : Nat} {base : Int} {m : List RSt} {cs : List Nat} (h : WkAt E w wb base m cs) (hb : Below E w w') : WkAt E w' wb base m cs := by
 obtain ⟨vs, vw, h1, h2, h3⟩ := h.ex
 exact ⟨h.lt, vs, vw, (hb.block wb h.lt).trans h1, h2.below hb, h3.below hb⟩
theorem WkAt.facts {E : Nat} {w : World} {wb : Nat} {base : Int} {m : List RSt} {cs : List Nat} (h : WkAt E w wb base m cs) : ∃ sd sc wd wc, w.cell? ⟨wb, 0, none⟩ = some (.int .i64 base) ∧ w.cell? ⟨wb, 1, none⟩ = some (.slice sd m.length sc) ∧ w.cell? ⟨wb, 2, none⟩ = some (.slice wd cs.length wc) ∧ StsAt E w (.slice sd m.length sc) m ∧ GRow E 1 w (.slice wd cs.length wc) (cs.map cellsN) := by
 obtain ⟨vs, vw, h1, h2, h3⟩ := h.ex
 obtain ⟨sd, sc, rfl⟩ := h2.shape
 obtain ⟨wd, wc, rfl⟩ := h3.shape
 rw [List.length_map] at h1 h3
 exact ⟨sd, sc, wd, wc, by simp [World.cell?, h1], by simp [World.cell?, h1], by simp [World.cell?, h1], h2, h3⟩
/-- One number of a row. -/
theorem GRow.num {E : Nat} {w : World} {ad : Option Addr} {n cap : Nat} {cs : List Nat} (h : GRow E 1 w (.slice ad n cap) (cs.map cellsN)) {k c : Nat} (hc : cs[k]? = some c) : ∃ g off, ad = some ⟨g, off, none⟩ ∧ g < E ∧ w.cell? ⟨g, off + k, none⟩ = some (.int .i64 (c : Int)) := by
 obtain ⟨ad', cap', hv, hx⟩ := h.ex
 simp only [Value.slice.injEq] at hv
 have hk := (List.getElem?_eq_some_iff.1 hc).1
 obtain ⟨g, off, rfl, hg, hx⟩ := hx (by rw [List.length_map]; omega)
 have e : (cs.map cellsN)[k]? = some (cellsN c) := by rw [List.getElem?_map, hc]; rfl
 have := hx k 0 _ _ e rfl
 rw [Nat.mul_one, Nat.add_zero] at this
 exact ⟨g, off, hv.1, hg, this⟩
set_option maxHeartbeats 1000000 in
theorem Root_any (E : Nat) (w : World) (wb : Nat) (base : Int) (m : List RSt) (cs : List Nat) (h : WkAt E w wb base m cs) :
 Calls Tryz.prog 30 #[.pointer (some ⟨wb, 0, none⟩)] w fun e w' => e = .returned (.int .i64 ((m.length : Int) - 1)) ∧ w' = w := by
 obtain ⟨sd, sc, wd, wc, c0, c1, c2, hS, _⟩ := h.facts
 have hl := hS.len
 go_enter Tryz.func30, Tryz.ntmps30
 go_wp2
 go_ret
 exact ⟨by go_num, rfl⟩
set_option maxHeartbeats 1000000 in
theorem Base_any (E : Nat) (w : World) (wb : Nat) (base : Int) (m : List RSt) (cs : List Nat) (h : WkAt E w wb base m cs) :
 Calls Tryz.prog 31 #[.pointer (some ⟨wb, 0, none⟩)] w fun e w' => e = .returned (.int .i64 base) ∧ w' = w := by
 obtain ⟨sd, sc, wd, wc, c0, c1, c2, hS, _⟩ := h.facts
 go_enter Tryz.func31, Tryz.ntmps31
 go_wp2
 go_ret
 exact ⟨rfl, rfl⟩
end Go.Proofs.YtncnefpkfbngaaaGreatDoor
