/- State: a state's copy. -/
import Derived.Test.YtllmdfkiogmofaaDoorWkMk
namespace Go.Proofs.YtllmdfkiogmofaaDoor
open Go.RowKit Nums Fm Pk Pm
set_option maxRecDepth 100000

theorem st_results {tmps : Array Value} {w : World} {qb : Nat} {a b c d : Value} (h2 : tmps.getD 4 undef = .pointer (some ⟨qb, 0, none⟩)) (h5 : tmps.getD 5 undef = d) (c0 : w.cell? ⟨qb, 0, none⟩ = some a) (c1 : w.cell? ⟨qb, 1, none⟩ = some b) (c2 : w.cell? ⟨qb, 2, none⟩ = some c) : (results Tryd.f8 tmps).run Tryd.prog w = .ok (.tuple #[.agg #[a, b, c], d]) w := by
  have h2' : tmps[4]?.getD undef = .pointer (some ⟨qb, 0, none⟩) := by simpa using h2
  have h5' : tmps[5]?.getD undef = d := by simpa using h5
  simp [results, Tryd.results8, go_sem, h2', h5', c0, c1, c2]
/-- The block of the result. -/
structure QB (w : World) (qb : Nat) (W : World) : Prop where
  bel : Below w.heap.size w W
  lo : w.heap.size ≤ qb
  blk : W.heap[qb]? = some (.cells #[.bool false, .int .i64 0, .slice none 0 0] 34)
theorem QB.facts {w : World} {qb : Nat} {W : World} (h : QB w qb W) : W.cell? ⟨qb, 0, none⟩ = some (.bool false) ∧ W.cell? ⟨qb, 1, none⟩ = some (.int .i64 0) ∧ W.cell? ⟨qb, 2, none⟩ = some (.slice none 0 0) ∧ W.frozen? ⟨qb, 0, none⟩ = false ∧ W.frozen? ⟨qb, 1, none⟩ = false ∧ W.frozen? ⟨qb, 2, none⟩ = false :=
  ⟨by simp [World.cell?, h.blk], by simp [World.cell?, h.blk], by simp [World.cell?, h.blk], by simp [World.frozen?, h.blk], by simp [World.frozen?, h.blk], by simp [World.frozen?, h.blk]⟩
theorem QB.below {w : World} {qb : Nat} {W W' : World} (h : QB w qb W) (hb : Below W.heap.size W W') : QB w qb W' := ⟨h.bel.trans (hb.mono h.bel.size), h.lo, (hb.block qb (Array.getElem?_eq_some_iff.1 h.blk).1).trans h.blk⟩
theorem QB.set {w : World} {qb : Nat} {W : World} (h : QB w qb W) (f : Bool) (o : Int) (va : Value) : (((W.setCell ⟨qb, 0, none⟩ (.bool f)).setCell ⟨qb, 1, none⟩ (.int .i64 o)).setCell ⟨qb, 2, none⟩ va).heap[qb]? = some (.cells #[.bool f, .int .i64 o, va] 34) ∧ Upd (fun k => k = qb) W (((W.setCell ⟨qb, 0, none⟩ (.bool f)).setCell ⟨qb, 1, none⟩ (.int .i64 o)).setCell ⟨qb, 2, none⟩ va) :=
  ⟨by rw [set_at (set_at (set_at h.blk _) _) _]; rfl, set_trans (F := fun k => k = qb) (set_trans (F := fun k => k = qb) (set_trans (F := fun k => k = qb) (Upd.refl _ _) _ rfl) _ rfl) _ rfl⟩
theorem QB.start (w : World) {qb : Nat} (hq : qb = w.heap.size) : QB w qb (w.alloc (.cells #[.bool false, .int .i64 0, .slice none 0 0] 34)) := ⟨(Below.refl _ w).alloc (Nat.le_refl _) _, by omega, by rw [hq]; exact alloc_newP _ _⟩
set_option maxHeartbeats 2000000 in
theorem State_no (w : World) (wb : Nat) (l : List Pr) (h : WkOn w wb l) (i : Int) (hi : ¬ (0 ≤ i ∧ i < ((machOf l).2.length : Int))) :
    Calls Tryd.prog 8 #[.pointer (some ⟨wb, 0, none⟩), .int .i64 i] w fun e w' => e = .returned (.tuple #[.agg #[.bool false, .int .i64 0, .slice none 0 0], .bool false]) ∧ Below w.heap.size w w' := by
  obtain ⟨qb, hqb⟩ : ∃ qb, qb = w.heap.size := ⟨_, rfl⟩
  obtain ⟨W1, hW1⟩ : ∃ W1, W1 = w.alloc (.cells #[.bool false, .int .i64 0, .slice none 0 0] 34) := ⟨_, rfl⟩
  have HQB : Hid (QB w qb W1) := by show QB _ _ _; rw [hW1]; exact QB.start w hqb
  obtain ⟨z0, z1, z2, f0, f1, f2⟩ := HQB.out.facts
  obtain ⟨D, _, _, hWk⟩ := h.at'
  obtain ⟨sd, sc, wd, wc, q0, q1, q2, hSt, _⟩ := hWk.facts
  obtain ⟨n, hn⟩ : ∃ n, (machOf l).2.length = n := ⟨_, rfl⟩
  rw [List.length_map, hn] at q1
  rw [hn] at hi
  have u1 : W1.cell? ⟨wb, 1, none⟩ = some (.slice sd n sc) := (HQB.out.bel.cell (p := ⟨wb, 1, none⟩) hWk.lt).trans q1
  clear h hWk q0 q1 q2 hSt hn
  by_cases h0 : i < 0
  · clear hi
    go_enter Tryd.func8, Tryd.ntmps8
    go_upto_region 1 with fail
    rw [← hqb, ← hW1]
    clear hqb hW1
    go_wp2
    obtain ⟨e1, e2⟩ := HQB.out.set false 0 (.slice none 0 0)
    generalize (((W1.setCell ⟨qb, 0, none⟩ (.bool false)).setCell ⟨qb, 1, none⟩ (.int .i64 0)).setCell ⟨qb, 2, none⟩ (.slice none 0 0)) = W9 at e1 e2 ⊢
    refine bodyPost_ret (st_results (a := .bool false) (b := .int .i64 0) (c := .slice none 0 0) (d := .bool false) rfl rfl (by simp [World.cell?, e1]) (by simp [World.cell?, e1]) (by simp [World.cell?, e1])) rfl ?_
    exact ⟨rfl, HQB.out.bel.trans (e2.below HQB.out.bel.size (fun k e => by have := HQB.out.lo; omega))⟩
  · have h1 : (n : Int) ≤ i := by omega
    clear hi
    go_enter Tryd.func8, Tryd.ntmps8
    go_upto_region 1 with fail
    rw [← hqb, ← hW1]
    clear hqb hW1
    go_wp2
    obtain ⟨e1, e2⟩ := HQB.out.set false 0 (.slice none 0 0)
    generalize (((W1.setCell ⟨qb, 0, none⟩ (.bool false)).setCell ⟨qb, 1, none⟩ (.int .i64 0)).setCell ⟨qb, 2, none⟩ (.slice none 0 0)) = W9 at e1 e2 ⊢
    refine bodyPost_ret (st_results (a := .bool false) (b := .int .i64 0) (c := .slice none 0 0) (d := .bool false) rfl rfl (by simp [World.cell?, e1]) (by simp [World.cell?, e1]) (by simp [World.cell?, e1])) rfl ?_
    exact ⟨rfl, HQB.out.bel.trans (e2.below HQB.out.bel.size (fun k e => by have := HQB.out.lo; omega))⟩
set_option maxHeartbeats 2000000 in
theorem State_yes (w : World) (wb : Nat) (l : List Pr) (h : WkOn w wb l) (k : Nat) (t : St) (ht : (machOf l).2[k]? = some t) :
    Calls Tryd.prog 8 #[.pointer (some ⟨wb, 0, none⟩), .int .i64 (k : Int)] w fun e w' => ∃ ad cap, e = .returned (.tuple #[.agg #[.bool t.final, .int .i64 t.out, .slice ad t.arcs.length cap], .bool true]) ∧ ArcsAt w'.heap.size w' (.slice ad t.arcs.length cap) (t.arcs.map ofArc) ∧ Below w.heap.size w w' := by
  obtain ⟨qb, hqb⟩ : ∃ qb, qb = w.heap.size := ⟨_, rfl⟩
  obtain ⟨W1, hW1⟩ : ∃ W1, W1 = w.alloc (.cells #[.bool false, .int .i64 0, .slice none 0 0] 34) := ⟨_, rfl⟩
  have HQB : Hid (QB w qb W1) := by show QB _ _ _; rw [hW1]; exact QB.start w hqb
  obtain ⟨D, _, _, hWk⟩ := h.at'
  obtain ⟨sd, sc, wd, wc, q0, q1, q2, hSt, _⟩ := hWk.facts
  obtain ⟨n, hn⟩ : ∃ n, (machOf l).2.length = n := ⟨_, rfl⟩
  have hlm : ((machOf l).2.map ofSt).length = n := by rw [List.length_map, hn]
  rw [hlm] at q1 hSt
  have hkn := (List.getElem?_eq_some_iff.1 ht).1
  rw [hn] at hkn
  obtain ⟨g, off, va, hgd, hg, x0, x1, x2, hA⟩ := hSt.at (k := k) (s := ofSt t) (by rw [List.getElem?_map, ht]; rfl)
  obtain ⟨ta, tc, hva⟩ := hA.shape
  obtain ⟨na, hna⟩ : ∃ na, t.arcs.length = na := ⟨_, rfl⟩
  have hna2 : (ofSt t).arcs.length = na := by show (t.arcs.map ofArc).length = na; rw [List.length_map, hna]
  rw [hna2] at hva
  subst hva
  subst hgd
  have hb1 := HQB.out.bel
  have hlen := hSt.len
  rw [hlm] at hlen
  have u1 : W1.cell? ⟨wb, 1, none⟩ = some (.slice (some ⟨g, off, none⟩) n sc) := (hb1.cell (p := ⟨wb, 1, none⟩) hWk.lt).trans q1
  have y0 : W1.cell? ⟨g, off + k * 3, none⟩ = some (.bool t.final) := (hb1.cell (p := ⟨g, off + k * 3, none⟩) hg).trans x0
  have y1 : W1.cell? ⟨g, off + k * 3 + 1, none⟩ = some (.int .i64 t.out) := (hb1.cell (p := ⟨g, off + k * 3 + 1, none⟩) hg).trans x1
  have y2 : W1.cell? ⟨g, off + k * 3 + 2, none⟩ = some (.slice ta na tc) := (hb1.cell (p := ⟨g, off + k * 3 + 2, none⟩) hg).trans x2
  have HCL : Hid (Calls Tryd.prog 21 #[.agg #[.bool t.final, .int .i64 t.out, .slice ta na tc]] W1 fun e w' => ∃ ad cap, e = .returned (.agg #[.bool t.final, .int .i64 t.out, .slice ad na cap]) ∧ ArcsAt w'.heap.size w' (.slice ad na cap) (t.arcs.map ofArc) ∧ (∀ g, (Value.slice ad na cap).ownBlock = some g → W1.heap.size ≤ g ∧ g < w'.heap.size) ∧ Below W1.heap.size W1 w') := by
    refine (cloned_any w.heap.size W1 (ofSt t) _ (hA.below hb1) hb1.size (arcs_few h.ok ht)).mono ?_
    rintro e w' ⟨v', rfl, ⟨ad, cap, hv⟩, h1, h2, h3⟩
    rw [hna2] at hv
    subst hv
    exact ⟨ad, cap, rfl, h1, h2, h3⟩
  have hkz : (k : Int) < (n : Int) := by omega
  have hkz2 : ¬ (n : Int) ≤ (k : Int) := by omega
  rw [hna]
  clear h hWk q0 q1 q2 hSt hn hlm ht hA hna hna2 hb1 x0 x1 x2 hg
  go_enter Tryd.func8, Tryd.ntmps8
  go_upto_region 1 with fail
  rw [← hqb, ← hW1]
  clear hqb hW1
  go_wp2_with (go_at_call 21; refine HCL.out.mono ?_; rintro e w2 ⟨ad2, cap2, rfl, hA2, hg2, hb2⟩; have HA2 : Hid (ArcsAt w2.heap.size w2 (.slice ad2 na cap2) (t.arcs.map ofArc)) := hA2; have HG2 : Hid _ := hg2; have HQ2 : Hid (QB w qb w2) := HQB.out.below hb2; obtain ⟨z0, z1, z2, f0, f1, f2⟩ := HQ2.out.facts; clear hA2 hg2 hb2)
  obtain ⟨e1, e2⟩ := HQ2.out.set t.final t.out (.slice ad2 na cap2)
  generalize (((w2.setCell ⟨qb, 0, none⟩ (.bool t.final)).setCell ⟨qb, 1, none⟩ (.int .i64 t.out)).setCell ⟨qb, 2, none⟩ (.slice ad2 na cap2)) = W9 at e1 e2 ⊢
  refine bodyPost_ret (st_results (a := .bool t.final) (b := .int .i64 t.out) (c := .slice ad2 na cap2) (d := .bool true) rfl rfl (by simp [World.cell?, e1]) (by simp [World.cell?, e1]) (by simp [World.cell?, e1])) rfl ?_
  have hql := HQB.out.lo
  have hqs := (Array.getElem?_eq_some_iff.1 HQB.out.blk).1
  exact ⟨ad2, cap2, rfl, HA2.out.upd e2 (Nat.le_refl _) (fun g hg e => by have := (HG2.out g hg).1; omega), HQ2.out.bel.trans (e2.below HQ2.out.bel.size (fun k e => by omega))⟩
end Go.Proofs.YtllmdfkiogmofaaDoor
