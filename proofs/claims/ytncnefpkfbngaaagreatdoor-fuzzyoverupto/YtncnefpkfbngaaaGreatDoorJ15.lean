/- Texts that were written apart, joined. -/
import Derived.Test.YtncnefpkfbngaaaGreatDoorJ14
import Derived.Test.YtncnefpkfbngaaaGreatDoorG2
import Derived.Laws.EntriesVeiled
import Derived.Shelf.Abstract
import Derived.Test.YtncnefpkfbngaaaGreatDoorWkB
/- Cut: what the seat's translation lacks is left out. -/
/- What a tour's steps leave as it was. -/
namespace Go.Proofs.YtncnefpkfbngaaaGreatDoor
open Go.RowKit Nums Fm Pk
set_option maxRecDepth 100000

variable {w0 : World} {B tb wb : Nat} {yv : Value} {I : CI} {A A' : Nat → Prop} {pre pre' : List Pr} {W W' : World} {k : Nat} {pv : Value} {path : List Int}
theorem set_updW (W : World) (tb o : Nat) (x : Value) : Upd (fun j => j = tb) W (W.setCell ⟨tb, o, none⟩ x) := by
 obtain ⟨h1, h2, h3, h4⟩ := set_rest W tb o x
 exact ⟨h1, h2, h3, by omega, fun k _ hk => Below.heap_setCell W ⟨tb, o, none⟩ x k hk⟩
/-- The path's row is the same, or a new one. -/
def NewP (W : World) (pv pv' : Value) : Prop := pv'.ownBlock = pv.ownBlock ∨ ∃ g, pv'.ownBlock = some g ∧ W.heap.size ≤ g
theorem NewP.trans {W W' : World} {a b c : Value} (h : NewP W a b) (h' : NewP W' b c) (hs : W.heap.size ≤ W'.heap.size) : NewP W a c := by
 rcases h' with h' | ⟨g, h1, h2⟩
 · rcases h with h | ⟨g, h1, h2⟩
   · exact .inl (h'.trans h)
   · exact .inr ⟨g, h'.trans h1, h2⟩
 · exact .inr ⟨g, h1, Nat.le_trans hs h2⟩
variable {Ws wr W7 W8 W9 : World} {L Y : List Pr} {A1 A2 : Nat → Prop} {pv1 pv2 pv3 : Value} {X : CI}
end Go.Proofs.YtncnefpkfbngaaaGreatDoor

/- Cut: what the seat's translation lacks is left out. -/
/- visit: a state's words, one by one. -/
namespace Go.Proofs.YtncnefpkfbngaaaGreatDoor
open Go.RowKit Nums Fm Pk
set_option maxRecDepth 100000

/-- What region 7 looks at. -/
structure S7v (tb wb ab g off t : Nat) (ws : Value) (c : Nat) (W : World) : Prop where
 c0 : W.cell? ⟨tb, 0, none⟩ = some (.pointer (some ⟨wb, 0, none⟩))
 c2 : W.cell? ⟨wb, 2, none⟩ = some ws
 c3 : W.cell? ⟨ab, 2, none⟩ = some (.int .i64 (t : Int))
 cx : W.cell? ⟨g, off + t, none⟩ = some (.int .i64 (c : Int))
theorem S7v.facts {tb wb ab g off t : Nat} {ws : Value} {c : Nat} {W : World} (h : S7v tb wb ab g off t ws c W) : W.cell? ⟨tb, 0, none⟩ = some (.pointer (some ⟨wb, 0, none⟩)) ∧ W.cell? ⟨wb, 2, none⟩ = some ws ∧ W.cell? ⟨ab, 2, none⟩ = some (.int .i64 (t : Int)) ∧ W.cell? ⟨g, off + t, none⟩ = some (.int .i64 (c : Int)) := ⟨h.1, h.2, h.3, h.4⟩
/-- What region 10 looks at. -/
structure S10v (tb ab : Nat) (pv : Value) (c : Int) (W : World) : Prop where
 c2 : W.cell? ⟨tb, 2, none⟩ = some pv
 ca : W.cell? ⟨ab, 0, none⟩ = some (.int .i32 c)
theorem S10v.facts {tb ab : Nat} {pv : Value} {c : Int} {W : World} (h : S10v tb ab pv c W) : W.cell? ⟨tb, 2, none⟩ = some pv ∧ W.cell? ⟨ab, 0, none⟩ = some (.int .i32 c) := ⟨h.1, h.2⟩
end Go.Proofs.YtncnefpkfbngaaaGreatDoor

/- Cut: what the seat's translation lacks is left out. -/
/- from: the pairs from a number on. -/
namespace Go.Proofs.YtncnefpkfbngaaaGreatDoor
open Go.RowKit Nums Fm Pk
set_option maxRecDepth 100000

/-- A walk on the dictionary l, in w0. -/
structure WkOn (w0 : World) (wb : Nat) (l : List Pr) : Prop where
 ok : buildE l = 0
 tabs : Tabs w0
 at' : ∃ D, (l ≠ [] → MW l (machOf l).1 (machOf l).2 D) ∧ Inv D (machOf l).2 ∧ WkAt w0.heap.size w0 wb (machOf l).1 ((machOf l).2.map ofSt) (D.map List.length)
theorem WkOn.below {w0 w1 : World} {wb : Nat} {l : List Pr} (h : WkOn w0 wb l) (hb : Below w0.heap.size w0 w1) : WkOn w1 wb l := by
 obtain ⟨D, h1, h2, h3⟩ := h.at'
 refine ⟨h.ok, h.tabs.below hb, D, h1, h2, ?_⟩
 have h4 := h3.below hb
 obtain ⟨vs, vw, k1, k2, k3⟩ := h4.ex
 obtain ⟨xss, g1, g2, g3⟩ := k2.ex
 exact ⟨Nat.lt_of_lt_of_le h4.lt hb.size, vs, vw, k1, ⟨⟨xss, g1.mono hb.size, g2, fun i s hi => by obtain ⟨va, e1, e2⟩ := g3 i s hi; exact ⟨va, e1, ⟨e2.row.mono hb.size, e2.ok, e2.len⟩⟩⟩, k2.ok, k2.len⟩, k3.mono hb.size⟩
/-- What region 2 looks at. -/
structure S2f (cw wb : Nat) (base : Int) (W : World) : Prop where
 c0 : W.cell? ⟨cw, 0, none⟩ = some (.pointer (some ⟨wb, 0, none⟩))
 c1 : W.cell? ⟨wb, 0, none⟩ = some (.int .i64 base)
theorem S2f.facts {cw wb : Nat} {base : Int} {W : World} (h : S2f cw wb base W) : W.cell? ⟨cw, 0, none⟩ = some (.pointer (some ⟨wb, 0, none⟩)) ∧ W.cell? ⟨wb, 0, none⟩ = some (.int .i64 base) := ⟨h.1, h.2⟩
end Go.Proofs.YtncnefpkfbngaaaGreatDoor

/- Cut: what the seat's translation lacks is left out. -/
/- At: the pair of a number. -/
namespace Go.Proofs.YtncnefpkfbngaaaGreatDoor
open Go.RowKit Go.Shelf Nums Fm Pk
set_option maxRecDepth 100000
attribute [local go_sem] Oper.semAt_some

/-- The boxes of the results. -/
structure RBx (w : World) (rp ro : Nat) (x : Pr) (ok : Bool) (W : World) : Prop where
 bel : Below w.heap.size w W
 lo : w.heap.size ≤ rp ∧ w.heap.size ≤ ro ∧ rp ≠ ro
 bp : W.heap[rp]? = some (.cells #[.string x.1, .int .i64 x.2] 47)
 bo : W.heap[ro]? = some (.cells #[.bool ok] 4)
theorem RBx.facts {w : World} {rp ro : Nat} {x : Pr} {ok : Bool} {W : World} (h : RBx w rp ro x ok W) : W.cell? ⟨rp, 0, none⟩ = some (.string x.1) ∧ W.cell? ⟨rp, 1, none⟩ = some (.int .i64 x.2) ∧ W.cell? ⟨ro, 0, none⟩ = some (.bool ok) ∧ W.frozen? ⟨rp, 0, none⟩ = false ∧ W.frozen? ⟨rp, 1, none⟩ = false ∧ W.frozen? ⟨ro, 0, none⟩ = false :=
 ⟨by simp [World.cell?, h.bp], by simp [World.cell?, h.bp], by simp [World.cell?, h.bo], by simp [World.frozen?, h.bp], by simp [World.frozen?, h.bp], by simp [World.frozen?, h.bo]⟩
theorem RBx.upd {F : Nat → Prop} {w : World} {rp ro : Nat} {x : Pr} {ok : Bool} {W W' : World} (h : RBx w rp ro x ok W) (hu : Upd F W W') (hp : ¬ F rp) (ho : ¬ F ro) (hF : ∀ k, F k → w.heap.size ≤ k) : RBx w rp ro x ok W' :=
 ⟨h.bel.trans (hu.below h.bel.size hF), h.lo, (hu.block rp (Array.getElem?_eq_some_iff.1 h.bp).1 hp).trans h.bp, (hu.block ro (Array.getElem?_eq_some_iff.1 h.bo).1 ho).trans h.bo⟩
/-- Both are stored. -/
theorem RBx.set {w : World} {rp ro : Nat} {x y : Pr} {ok ok' : Bool} {W : World} (h : RBx w rp ro x ok W) : RBx w rp ro y ok' (((W.setCell ⟨rp, 0, none⟩ (.string y.1)).setCell ⟨rp, 1, none⟩ (.int .i64 y.2)).setCell ⟨ro, 0, none⟩ (.bool ok')) ∧ Upd (fun k => k = rp ∨ k = ro) W (((W.setCell ⟨rp, 0, none⟩ (.string y.1)).setCell ⟨rp, 1, none⟩ (.int .i64 y.2)).setCell ⟨ro, 0, none⟩ (.bool ok')) := by
 have hu : Upd (fun k => k = rp ∨ k = ro) W (((W.setCell ⟨rp, 0, none⟩ (.string y.1)).setCell ⟨rp, 1, none⟩ (.int .i64 y.2)).setCell ⟨ro, 0, none⟩ (.bool ok')) :=
  (((set_updW W rp 0 _).mono (G := fun k => k = rp ∨ k = ro) fun k e => .inl e).trans ((set_updW _ rp 1 _).mono (G := fun k => k = rp ∨ k = ro) fun k e => .inl e) (fun _ _ g => g)).trans ((set_updW _ ro 0 _).mono (G := fun k => k = rp ∨ k = ro) fun k e => .inr e) (fun _ _ g => g)
 obtain ⟨l1, l2, l3⟩ := h.lo
 refine ⟨⟨h.bel.trans (hu.below h.bel.size (fun k e => by rcases e with e | e <;> omega)), h.lo, ?_, ?_⟩, hu⟩
 · rw [Below.heap_setCell _ ⟨ro, 0, none⟩ _ rp l3, set_at (set_at h.bp _) _]
   rfl
 · have e1 := (Below.heap_setCell (W.setCell ⟨rp, 0, none⟩ (.string y.1)) ⟨rp, 1, none⟩ (.int .i64 y.2) ro (fun e => l3 e.symm)).trans ((Below.heap_setCell W ⟨rp, 0, none⟩ (.string y.1) ro (fun e => l3 e.symm)).trans h.bo)
   rw [set_at e1]
   rfl
theorem S2f.upd {F : Nat → Prop} {cw wb : Nat} {base : Int} {W W' : World} (h : S2f cw wb base W) (hu : Upd F W W') (h1 : ¬ F cw) (h2 : ¬ F wb) : S2f cw wb base W' :=
 ⟨(World.cell?_of_block (a := ⟨cw, 0, none⟩) (hu.block cw (World.block_lt_of_cell? _ _ h.1) h1)).trans h.1, (World.cell?_of_block (a := ⟨wb, 0, none⟩) (hu.block wb (World.block_lt_of_cell? _ _ h.2) h2)).trans h.2⟩
end Go.Proofs.YtncnefpkfbngaaaGreatDoor

/- Cut: what the seat's translation lacks is left out. -/
/- Len. -/
namespace Go.Proofs.YtncnefpkfbngaaaGreatDoor
open Go.RowKit Nums Fm Pk
set_option maxRecDepth 100000

/-- What Len looks at. -/
structure SLn (wb g off k : Nat) (ws : Value) (c : Nat) (W : World) : Prop where
 c2 : W.cell? ⟨wb, 2, none⟩ = some ws
 cx : W.cell? ⟨g, off + k, none⟩ = some (.int .i64 (c : Int))
theorem SLn.facts {wb g off k : Nat} {ws : Value} {c : Nat} {W : World} (h : SLn wb g off k ws c W) : W.cell? ⟨wb, 2, none⟩ = some ws ∧ W.cell? ⟨g, off + k, none⟩ = some (.int .i64 (c : Int)) := ⟨h.1, h.2⟩
end Go.Proofs.YtncnefpkfbngaaaGreatDoor
