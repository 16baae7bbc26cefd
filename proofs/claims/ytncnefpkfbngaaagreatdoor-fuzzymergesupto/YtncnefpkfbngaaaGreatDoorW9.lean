/- Texts that were written apart, joined. -/
import Derived.Test.YtncnefpkfbngaaaGreatDoorJ14
import Derived.Test.YtncnefpkfbngaaaGreatDoorW5
import Derived.Test.YtncnefpkfbngaaaGreatDoorGc
import Derived.Test.YtncnefpkfbngaaaGreatDoorR0
import Derived.Test.YtncnefpkfbngaaaGreatDoorGd
/- Cut: what the seat's translation lacks is left out. -/
/- A walk on a dictionary's machine; alive; on. -/
namespace Go.Proofs.YtncnefpkfbngaaaGreatDoor
open Go.RowKit Nums Fm Pk Pm
set_option maxRecDepth 100000

theorem built_at {B : Nat} {w : World} {vs : Value} {l : List Pr} {b : List St} (h : StRow B w vs b) (hC : buildE l = 0) (hb : (machOf l).2 = b) : StsAt w.heap.size w vs (b.map ofSt) := by
 obtain ⟨xss, h1, h2, h3⟩ := h
 have hf := built_facts hC
 have hlen := mach_few (l := l)
 rw [hb] at hf hlen
 refine ⟨⟨xss, h1.reads, by rw [h2, List.length_map], fun i s hi => ?_⟩, fun s hs => ?_, by rw [List.length_map]; omega⟩
 · rw [List.getElem?_map] at hi
   obtain ⟨t, ht, rfl⟩ := Option.map_eq_some_iff.1 hi
   obtain ⟨va, e1, e2⟩ := h3 i t ht
   have hcell : (t.arcs.map ofArc).map cellsRA = t.arcs.map cellsA := by rw [List.map_map]; rfl
   refine ⟨va, e1, ⟨by rw [show (ofSt t).arcs = t.arcs.map ofArc from rfl, hcell]; exact GOwn.reads e2, fun a ha => ?_, ?_⟩⟩
   · obtain ⟨x, hx, rfl⟩ := List.mem_map.1 ha
     obtain ⟨p1, p2, p3⟩ := (hf i t ht).2 x hx
     have hi' := (List.getElem?_eq_some_iff.1 ht).1
     simp only [OkRA, ofArc, Fits32, Fits64]
     omega
   · have := GOwn.reads e2
     obtain ⟨ad, cap, e, _⟩ := GOwn.shape e2
     have hsm : (t.arcs.map cellsA).length ≤ maxLen := by
      obtain ⟨_, hl, ⟨_, h0⟩ | ⟨g, cap, cur, _, _, _, h3, h4, _⟩⟩ := e2
      · omega
      · omega
     rw [List.length_map] at hsm
     unfold maxLen at hsm
     show (t.arcs.map ofArc).length ≤ _
     rw [List.length_map]
     omega
 · obtain ⟨t, ht, rfl⟩ := List.mem_map.1 hs
   obtain ⟨i, hi, rfl⟩ := List.getElem_of_mem ht
   have := (hf i _ (List.getElem?_eq_getElem hi)).1
   simp only [ofSt, Fits64]
   omega
theorem StRow.form {B : Nat} {w : World} {vs : Value} {b : List St} (h : StRow B w vs b) : ∃ ad n cap, vs = .slice ad n cap ∧ b.length = n := by
 obtain ⟨xss, h1, h2, _⟩ := h
 obtain ⟨ad, cap, h3, _⟩ := h1.shape
 exact ⟨ad, _, cap, h3, h2.symm⟩
theorem make_all (w : World) (v : Value) (l : List Pr) (h : PRow w v l) (hC : buildE l = 0) : MakeSays v l w := refMake_any w v l h hC fun hl w2 v2 _ hr => state_top w2 v2 l hC hl hr
theorem NewW_any (B : Nat) (w : World) (l : List Pr) (base : Int) (vs : Value) (b : List St) (hC : buildE l = 0) (hrow : StRow B w vs b) (hmach : machOf l = (base, b)) (hT : Tabs w) :
 Calls Tryz.prog 27 #[.agg #[.int .i64 base, vs]] w fun e w' => ∃ wb, e = .returned (.tuple #[.pointer (some ⟨wb, 0, none⟩), .bool true]) ∧ w.heap.size ≤ wb ∧ WkOn w' wb l ∧ Below w.heap.size w w' := by
 have hb2 : (machOf l).2 = b := by rw [hmach]
 have hb1 : (machOf l).1 = base := by rw [hmach]
 have hS := built_at hrow hC hb2
 have hr : rightB base (b.map ofSt) = true := by have := built_right hC; rw [hmach] at this; exact this
 have hfew : b.length ≤ 1048576 := by have := mach_few (l := l); rw [hmach] at this; simp only at this; omega
 obtain ⟨D, hI, hF, hM⟩ : ∃ D, Inv D b ∧ (∀ R ∈ D, R.length ≤ 4096) ∧ (l ≠ [] → MW l (machOf l).1 (machOf l).2 D) := by
  by_cases hl : l = []
  · subst hl
    have : b = [] := by rw [← hb2]; rfl
    subst this
    exact ⟨[], Inv.nil, fun R hR => (by cases hR), fun h => absurd rfl h⟩
  · obtain ⟨D, M⟩ := mach_walk hC hl
    exact ⟨D, by have := M.inv; rw [hb2] at this; exact this, M.rst.few, fun _ => M⟩
 have hsm : ∀ s ∈ b.map ofSt, s.arcs.length ≤ 1114112 := fun s hs => by
  obtain ⟨t, ht, rfl⟩ := List.mem_map.1 hs
  obtain ⟨i, hi, rfl⟩ := List.getElem_of_mem ht
  exact arcs_few hC (n := i) (by rw [hb2]; exact List.getElem?_eq_getElem hi)
 refine (New_yes w.heap.size w base b D hI hF vs hS (Nat.le_refl _) hT hfew hr hsm).mono ?_
 rintro e w' ⟨wb, rfl, h1, h2, h3⟩
 exact ⟨wb, rfl, h1, ⟨hC, hT.below h3, D, hM, by rw [hb2]; exact hI, by rw [hb1, hb2]; exact h2⟩, h3⟩
theorem right_fault : ∀ (l : List Pr) (p : Option Pr), rightFrom p l = true → faultF p l = 0
 | [], _, _ => rfl
 | x :: r, p, h => by
  rw [rightFrom] at h
  simp only [Bool.and_eq_true] at h
  obtain ⟨h1, h2, h3⟩ := h
  unfold oneOk at h1
  simp only [Bool.and_eq_true, decide_eq_true_eq] at h1
  rw [faultF, one_ok h1.1 (by omega) (by omega) h2, if_pos rfl]
  exact right_fault r (some x) h3
theorem right_build {l : List Pr} (h : rightP l = true) : buildE l = 0 := by
 unfold rightP at h
 simp only [Bool.and_eq_true, decide_eq_true_eq] at h
 unfold buildE
 rw [if_neg (by omega)]
 exact right_fault l none h.2
/-- Is it asked on? -/
def onB (l : List Pr) : Bool := decide (l.length ≤ 300) && rightP l
end Go.Proofs.YtncnefpkfbngaaaGreatDoor

/- State: a state's copy. -/
namespace Go.Proofs.YtncnefpkfbngaaaGreatDoor
open Go.RowKit Nums Fm Pk Pm
set_option maxRecDepth 100000

theorem st_results {tmps : Array Value} {w : World} {qb : Nat} {a b c d : Value} (h2 : tmps.getD 4 undef = .pointer (some ⟨qb, 0, none⟩)) (h5 : tmps.getD 5 undef = d) (c0 : w.cell? ⟨qb, 0, none⟩ = some a) (c1 : w.cell? ⟨qb, 1, none⟩ = some b) (c2 : w.cell? ⟨qb, 2, none⟩ = some c) : (results Tryz.f51 tmps).run Tryz.prog w = .ok (.tuple #[.agg #[a, b, c], d]) w := by
 have h2' : tmps[4]?.getD undef = .pointer (some ⟨qb, 0, none⟩) := by simpa using h2
 have h5' : tmps[5]?.getD undef = d := by simpa using h5
 simp [results, Tryz.results51, go_sem, h2', h5', c0, c1, c2]
/-- The block of the result. -/
structure QB (w : World) (qb : Nat) (W : World) : Prop where
 bel : Below w.heap.size w W
 lo : w.heap.size ≤ qb
 blk : W.heap[qb]? = some (.cells #[.bool false, .int .i64 0, .slice none 0 0] 88)
theorem QB.facts {w : World} {qb : Nat} {W : World} (h : QB w qb W) : W.cell? ⟨qb, 0, none⟩ = some (.bool false) ∧ W.cell? ⟨qb, 1, none⟩ = some (.int .i64 0) ∧ W.cell? ⟨qb, 2, none⟩ = some (.slice none 0 0) ∧ W.frozen? ⟨qb, 0, none⟩ = false ∧ W.frozen? ⟨qb, 1, none⟩ = false ∧ W.frozen? ⟨qb, 2, none⟩ = false :=
 ⟨by simp [World.cell?, h.blk], by simp [World.cell?, h.blk], by simp [World.cell?, h.blk], by simp [World.frozen?, h.blk], by simp [World.frozen?, h.blk], by simp [World.frozen?, h.blk]⟩
theorem QB.below {w : World} {qb : Nat} {W W' : World} (h : QB w qb W) (hb : Below W.heap.size W W') : QB w qb W' := ⟨h.bel.trans (hb.mono h.bel.size), h.lo, (hb.block qb (Array.getElem?_eq_some_iff.1 h.blk).1).trans h.blk⟩
theorem QB.set {w : World} {qb : Nat} {W : World} (h : QB w qb W) (f : Bool) (o : Int) (va : Value) : (((W.setCell ⟨qb, 0, none⟩ (.bool f)).setCell ⟨qb, 1, none⟩ (.int .i64 o)).setCell ⟨qb, 2, none⟩ va).heap[qb]? = some (.cells #[.bool f, .int .i64 o, va] 88) ∧ Upd (fun k => k = qb) W (((W.setCell ⟨qb, 0, none⟩ (.bool f)).setCell ⟨qb, 1, none⟩ (.int .i64 o)).setCell ⟨qb, 2, none⟩ va) :=
 ⟨by rw [set_at (set_at (set_at h.blk _) _) _]; rfl, set_trans (F := fun k => k = qb) (set_trans (F := fun k => k = qb) (set_trans (F := fun k => k = qb) (Upd.refl _ _) _ rfl) _ rfl) _ rfl⟩
theorem QB.start (w : World) {qb : Nat} (hq : qb = w.heap.size) : QB w qb (w.alloc (.cells #[.bool false, .int .i64 0, .slice none 0 0] 88)) := ⟨(Below.refl _ w).alloc (Nat.le_refl _) _, by omega, by rw [hq]; exact alloc_newP _ _⟩
set_option maxHeartbeats 2000000 in
theorem State_no (w : World) (wb : Nat) (l : List Pr) (h : WkOn w wb l) (i : Int) (hi : ¬ (0 ≤ i ∧ i < ((machOf l).2.length : Int))) :
 Calls Tryz.prog 51 #[.pointer (some ⟨wb, 0, none⟩), .int .i64 i] w fun e w' => e = .returned (.tuple #[.agg #[.bool false, .int .i64 0, .slice none 0 0], .bool false]) ∧ Below w.heap.size w w' := by
 obtain ⟨qb, hqb⟩ : ∃ qb, qb = w.heap.size := ⟨_, rfl⟩
 obtain ⟨W1, hW1⟩ : ∃ W1, W1 = w.alloc (.cells #[.bool false, .int .i64 0, .slice none 0 0] 88) := ⟨_, rfl⟩
 have HQB : Hid (QB w qb W1) := by show QB _ _ _; rw [hW1]; exact QB.start w hqb
 obtain ⟨z0, z1, z2, f0, f1, f2⟩ := HQB.out.facts
 obtain ⟨D, _, _, hWk⟩ := h.at'
 obtain ⟨sd, sc, wd, wc, q0, q1, q2, hSt, _⟩ := hWk.facts
 obtain ⟨n, hn⟩ : ∃ n, (machOf l).2.length = n := ⟨_, rfl⟩
 rw [List.length_map, hn] at q1
 rw [hn] at hi
 have u1 : W1.cell? ⟨wb, 1, none⟩ = some (.slice sd n sc) := (HQB.out.bel.cell (p := ⟨wb, 1, none⟩) hWk.lt).trans q1
 clear h hWk q0 q1 q2 hSt hn
 by_cases h0 : i < 0
 · clear hi
   go_enter Tryz.func51, Tryz.ntmps51
   go_upto_region 1 with fail
   rw [← hqb, ← hW1]
   clear hqb hW1
   go_wp2
   obtain ⟨e1, e2⟩ := HQB.out.set false 0 (.slice none 0 0)
   generalize (((W1.setCell ⟨qb, 0, none⟩ (.bool false)).setCell ⟨qb, 1, none⟩ (.int .i64 0)).setCell ⟨qb, 2, none⟩ (.slice none 0 0)) = W9 at e1 e2 ⊢
   refine bodyPost_ret (st_results (a := .bool false) (b := .int .i64 0) (c := .slice none 0 0) (d := .bool false) rfl rfl (by simp [World.cell?, e1]) (by simp [World.cell?, e1]) (by simp [World.cell?, e1])) rfl ?_
   exact ⟨rfl, HQB.out.bel.trans (e2.below HQB.out.bel.size (fun k e => by have := HQB.out.lo; omega))⟩
 · have h1 : (n : Int) ≤ i := by omega
   clear hi
   go_enter Tryz.func51, Tryz.ntmps51
   go_upto_region 1 with fail
   rw [← hqb, ← hW1]
   clear hqb hW1
   go_wp2
   obtain ⟨e1, e2⟩ := HQB.out.set false 0 (.slice none 0 0)
   generalize (((W1.setCell ⟨qb, 0, none⟩ (.bool false)).setCell ⟨qb, 1, none⟩ (.int .i64 0)).setCell ⟨qb, 2, none⟩ (.slice none 0 0)) = W9 at e1 e2 ⊢
   refine bodyPost_ret (st_results (a := .bool false) (b := .int .i64 0) (c := .slice none 0 0) (d := .bool false) rfl rfl (by simp [World.cell?, e1]) (by simp [World.cell?, e1]) (by simp [World.cell?, e1])) rfl ?_
   exact ⟨rfl, HQB.out.bel.trans (e2.below HQB.out.bel.size (fun k e => by have := HQB.out.lo; omega))⟩
set_option maxHeartbeats 2000000 in
theorem State_yes (w : World) (wb : Nat) (l : List Pr) (h : WkOn w wb l) (k : Nat) (t : St) (ht : (machOf l).2[k]? = some t) :
 Calls Tryz.prog 51 #[.pointer (some ⟨wb, 0, none⟩), .int .i64 (k : Int)] w fun e w' => ∃ ad cap, e = .returned (.tuple #[.agg #[.bool t.final, .int .i64 t.out, .slice ad t.arcs.length cap], .bool true]) ∧ ArcsAt w'.heap.size w' (.slice ad t.arcs.length cap) (t.arcs.map ofArc) ∧ (∀ g, (Value.slice ad t.arcs.length cap).ownBlock = some g → w.heap.size ≤ g ∧ g < w'.heap.size) ∧ Below w.heap.size w w' := by
 obtain ⟨qb, hqb⟩ : ∃ qb, qb = w.heap.size := ⟨_, rfl⟩
 obtain ⟨W1, hW1⟩ : ∃ W1, W1 = w.alloc (.cells #[.bool false, .int .i64 0, .slice none 0 0] 88) := ⟨_, rfl⟩
 have HQB : Hid (QB w qb W1) := by show QB _ _ _; rw [hW1]; exact QB.start w hqb
 obtain ⟨D, _, _, hWk⟩ := h.at'
 obtain ⟨sd, sc, wd, wc, q0, q1, q2, hSt, _⟩ := hWk.facts
 obtain ⟨n, hn⟩ : ∃ n, (machOf l).2.length = n := ⟨_, rfl⟩
 have hlm : ((machOf l).2.map ofSt).length = n := by rw [List.length_map, hn]
 rw [hlm] at q1 hSt
 have hkn := (List.getElem?_eq_some_iff.1 ht).1
 rw [hn] at hkn
 obtain ⟨g, off, va, hgd, hg, x0, x1, x2, hA⟩ := hSt.at (k := k) (s := ofSt t) (by rw [List.getElem?_map, ht]; rfl)
 obtain ⟨ta, tc, hva⟩ := hA.shape
 obtain ⟨na, hna⟩ : ∃ na, t.arcs.length = na := ⟨_, rfl⟩
 have hna2 : (ofSt t).arcs.length = na := by show (t.arcs.map ofArc).length = na; rw [List.length_map, hna]
 rw [hna2] at hva
 subst hva
 subst hgd
 have hb1 := HQB.out.bel
 have hlen := hSt.len
 rw [hlm] at hlen
 have u1 : W1.cell? ⟨wb, 1, none⟩ = some (.slice (some ⟨g, off, none⟩) n sc) := (hb1.cell (p := ⟨wb, 1, none⟩) hWk.lt).trans q1
 have y0 : W1.cell? ⟨g, off + k * 3, none⟩ = some (.bool t.final) := (hb1.cell (p := ⟨g, off + k * 3, none⟩) hg).trans x0
 have y1 : W1.cell? ⟨g, off + k * 3 + 1, none⟩ = some (.int .i64 t.out) := (hb1.cell (p := ⟨g, off + k * 3 + 1, none⟩) hg).trans x1
 have y2 : W1.cell? ⟨g, off + k * 3 + 2, none⟩ = some (.slice ta na tc) := (hb1.cell (p := ⟨g, off + k * 3 + 2, none⟩) hg).trans x2
 have HCL : Hid (Calls Tryz.prog 46 #[.agg #[.bool t.final, .int .i64 t.out, .slice ta na tc]] W1 fun e w' => ∃ ad cap, e = .returned (.agg #[.bool t.final, .int .i64 t.out, .slice ad na cap]) ∧ ArcsAt w'.heap.size w' (.slice ad na cap) (t.arcs.map ofArc) ∧ (∀ g, (Value.slice ad na cap).ownBlock = some g → W1.heap.size ≤ g ∧ g < w'.heap.size) ∧ Below W1.heap.size W1 w') := by
  refine (cloned_any w.heap.size W1 (ofSt t) _ (hA.below hb1) hb1.size (arcs_few h.ok ht)).mono ?_
  rintro e w' ⟨v', rfl, ⟨ad, cap, hv⟩, h1, h2, h3⟩
  rw [hna2] at hv
  subst hv
  exact ⟨ad, cap, rfl, h1, h2, h3⟩
 have hkz : (k : Int) < (n : Int) := by omega
 have hkz2 : ¬ (n : Int) ≤ (k : Int) := by omega
 rw [hna]
 clear h hWk q0 q1 q2 hSt hn hlm ht hA hna hna2 hb1 x0 x1 x2 hg
 go_enter Tryz.func51, Tryz.ntmps51
 go_upto_region 1 with fail
 rw [← hqb, ← hW1]
 clear hqb hW1
 go_wp2_with (go_at_call 46; refine HCL.out.mono ?_; rintro e w2 ⟨ad2, cap2, rfl, hA2, hg2, hb2⟩; have HA2 : Hid (ArcsAt w2.heap.size w2 (.slice ad2 na cap2) (t.arcs.map ofArc)) := hA2; have HG2 : Hid _ := hg2; have HQ2 : Hid (QB w qb w2) := HQB.out.below hb2; obtain ⟨z0, z1, z2, f0, f1, f2⟩ := HQ2.out.facts; clear hA2 hg2 hb2)
 obtain ⟨e1, e2⟩ := HQ2.out.set t.final t.out (.slice ad2 na cap2)
 generalize (((w2.setCell ⟨qb, 0, none⟩ (.bool t.final)).setCell ⟨qb, 1, none⟩ (.int .i64 t.out)).setCell ⟨qb, 2, none⟩ (.slice ad2 na cap2)) = W9 at e1 e2 ⊢
 refine bodyPost_ret (st_results (a := .bool t.final) (b := .int .i64 t.out) (c := .slice ad2 na cap2) (d := .bool true) rfl rfl (by simp [World.cell?, e1]) (by simp [World.cell?, e1]) (by simp [World.cell?, e1])) rfl ?_
 have hql := HQB.out.lo
 have hqs := (Array.getElem?_eq_some_iff.1 HQB.out.blk).1
 exact ⟨ad2, cap2, rfl, HA2.out.upd e2 (Nat.le_refl _) (fun g hg e => by have := (HG2.out g hg).1; omega), (fun g hg => by have := HG2.out g hg; have := HQB.out.bel.size; have := e2.size; omega), HQ2.out.bel.trans (e2.below HQ2.out.bel.size (fun k e => by omega))⟩
end Go.Proofs.YtncnefpkfbngaaaGreatDoor
