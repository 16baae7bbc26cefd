/- What a call on a table and on the document's does: how its blocks lie. -/
import Derived.Test.YtoiikmfdoadkpaaSeRef3
import Derived.Test.YtoiikmfdoadkpaaSeRef5
namespace Go.Proofs.Ytoiikmfdoadkpaa
open Go.RowKit Go.Lib
set_option maxRecDepth 100000
namespace Se
theorem do_results {tmps : Array Value} {w : World} {rb : Nat} {x : Tb} (h2 : tmps.getD 6 undef = .pointer (some ⟨rb, 0, none⟩)) (c : CAt w rb 0 (cellsT x)) : (results Try.f11 tmps).run Try.prog w = .ok (.tuple #[valT x, tmps.getD 7 undef]) w := by
  have c0 := c 0 _ rfl
  have c1 := c 1 _ rfl
  simp only [Nat.add_zero] at c0
  have h2' : tmps[6]?.getD undef = .pointer (some ⟨rb, 0, none⟩) := by simpa using h2
  simp [results, Try.results11, go_sem, h2', c0, c1, valT]
/-- How the call's own blocks lie. -/
structure DoW (q : Nat) (x : Tb) (o : Oo) (w : World) : Prop where
  box : w.heap[q]? = some (.cells (cellsT x).toArray 29)
  boxO : w.heap[q + 1]? = some (.cells (cellsO o).toArray 34)
  res : w.heap[q + 1 + 1]? = some zT
theorem DoW.upd {q : Nat} {x : Tb} {o : Oo} {w w' : World} {F : Nat → Prop} (h : DoW q x o w) (u : Upd F w w') (hF : ∀ k, q ≤ k → k < q + 1 + 1 + 1 → ¬ F k) : DoW q x o w' :=
  ⟨(u.block _ (lt_of_heap h.box) (hF _ (by omega) (by omega))).trans h.box, (u.block _ (lt_of_heap h.boxO) (hF _ (by omega) (by omega))).trans h.boxO, (u.block _ (lt_of_heap h.res) (hF _ (by omega) (by omega))).trans h.res⟩
theorem DoW.below {q : Nat} {x : Tb} {o : Oo} {w w' : World} (h : DoW q x o w) (hb : Below w.heap.size w w') : DoW q x o w' :=
  h.upd (F := fun _ => False) (upd_of_below hb) (fun _ _ _ h => h)
theorem DoW.ops {q : Nat} {x : Tb} {o : Oo} {w : World} (h : DoW q x o w) : w.cell? ⟨q + 1, 0, none⟩ = some (.int .i64 o.1) ∧ w.cell? ⟨q + 1, 1, none⟩ = some (.int .u64 o.2.1) ∧ w.cell? ⟨q + 1, 2, none⟩ = some (.int .u64 o.2.2.1) ∧ loadA Try.prog (.pointer (some ⟨q + 1, 3, none⟩)) w = .ok (valA o.2.2.2) w ∧ loadT Try.prog (.pointer (some ⟨q, 0, none⟩)) w = .ok (valT x) w := by
  refine ⟨by simp [World.cell?, h.boxO, cellsO], by simp [World.cell?, h.boxO, cellsO], by simp [World.cell?, h.boxO, cellsO], loadA_at (fun j u hj => ?_), own_loadT h.box⟩
  have h := cat_new h.boxO (3 + j) u (by
    match j, hj with
    | 0, hj => simpa [cellsO, cellsA] using hj
    | 1, hj => simpa [cellsO, cellsA] using hj
    | 2, hj => simpa [cellsO, cellsA] using hj
    | n + 3, hj => simp [cellsA] at hj)
  rwa [Nat.zero_add] at h
theorem DoW.store {q : Nat} {x : Tb} {o : Oo} {w : World} (h : DoW q x o w) (x' : Tb) : ∃ W, storeT Try.prog (.pointer (some ⟨q + 1 + 1, 0, none⟩)) (valT x') w = .ok () W ∧ CAt W (q + 1 + 1) 0 (cellsT x') ∧ Upd (fun k => k = q + 1 + 1) w W := by
  obtain ⟨W, hst, huW, hcW⟩ := own_storeT (ys := [.int .u64 0, .slice none 0 0]) rfl h.res x'
  exact ⟨W, hst, cat_new hcW, huW⟩
/-- What a script's call makes of the rows, the number of sessions, what was kept; are the answers the same? -/
def doL (l : List Rw) (o : Oo) : List Rw := if o.1 = 0 then openL l else if o.1 = 1 then l else if o.1 = 2 then keepL l o.2.1 o.2.2.1 o.2.2.2 else l
def doM (m : Nat) (o : Oo) : Nat := if o.1 = 0 then ropenM m else m
def doK (m : Nat) (ks : List Kp) (o : Oo) : List Kp := if o.1 = 2 then rkeepK m ks o.2.1 o.2.2.1 o.2.2.2 else ks
def doB (l : List Rw) (m : Nat) (ks : List Kp) (o : Oo) : Bool :=
  if o.1 = 0 then ((openE l).1 == (ropenE m).1 && (openE l).2 == (ropenE m).2)
  else if o.1 = 1 then ((chk l o.2.1 o.2.2.1).1 == (rchk m ks o.2.1 o.2.2.1).1 && ((chk l o.2.1 o.2.2.1).2.1 == (rchk m ks o.2.1 o.2.2.1).2.1 && (chk l o.2.1 o.2.2.1).2.2 == (rchk m ks o.2.1 o.2.2.1).2.2))
  else if o.1 = 2 then (keepB l o.2.1 o.2.2.1 == rkeepB m ks o.2.1 o.2.2.1) else true
theorem Like.does {l : List Rw} {m : Nat} {ks : List Kp} (h : Like l m ks) (o : Oo) : doB l m ks o = true ∧ Like (doL l o) (doM m o) (doK m ks o) := by
  unfold doB doL doM doK
  by_cases h0 : o.1 = 0
  · simp only [h0, if_true]
    rw [h.openE]
    exact ⟨by simp, h.opened⟩
  · by_cases h1 : o.1 = 1
    · simp only [h1]
      rw [h.chk]
      exact ⟨by simp, h⟩
    · by_cases h2 : o.1 = 2
      · simp only [h2]
        rw [h.keepB]
        exact ⟨by simp, h.kept _ _ _⟩
      · simp only [h0, h1, h2, if_false]
        exact ⟨trivial, h⟩
/-- The state of a table and of the document's. -/
structure DSt (B : Nat) (w : World) (p : Nat) (v : Value) (l : List Rw) (x : Tb) (m : Nat) (ks : List Kp) : Prop where
  tab : TAt B w p v l
  ref : KAt w x m ks
  ap : ∀ g, (tvs x).ownBlock = some g → ¬ TF p v g
theorem DSt.upd {B : Nat} {w w' : World} {p : Nat} {v : Value} {l : List Rw} {x : Tb} {m : Nat} {ks : List Kp} {F : Nat → Prop} (h : DSt B w p v l x m ks) (u : Upd F w w') (h1 : ∀ k, TF p v k → ¬ F k) (h2 : ∀ g, (tvs x).ownBlock = some g → ¬ F g) : DSt B w' p v l x m ks := ⟨h.tab.upd u h1, h.ref.upd u h2, h.ap⟩
theorem DSt.below {B : Nat} {w w' : World} {p : Nat} {v : Value} {l : List Rw} {x : Tb} {m : Nat} {ks : List Kp} (h : DSt B w p v l x m ks) (hb : Below w.heap.size w w') : DSt B w' p v l x m ks := ⟨h.tab.below hb, h.ref.below hb, h.ap⟩
/-- What a call ends in. -/
def DoEnd (B : Nat) (w : World) (p : Nat) (v : Value) (l : List Rw) (m : Nat) (ks : List Kp) (o : Oo) (e : Ending) (w' : World) : Prop :=
  ∃ ad n c v', e = .returned (.tuple #[.agg #[.int .u64 (doM m o : Nat), .slice ad n c], .bool (doB l m ks o)]) ∧ DSt B w' p v' (doL l o) (((doM m o : Nat) : Int), ad, n, c) (doM m o) (doK m ks o) ∧ Upd (TF p v) w w' ∧ (v'.ownBlock = v.ownBlock ∨ ∃ g, v'.ownBlock = some g ∧ w.heap.size ≤ g)
/-- The world in which the walk begins. -/
theorem do_begin (w : World) (x : Tb) (o : Oo) : ∃ V3, ((w.alloc (.cells (cellsT x).toArray 29)).alloc (.cells (cellsO o).toArray 34)).alloc zT = V3 ∧ DoW w.heap.size x o V3 ∧ Below w.heap.size w V3 ∧ V3.heap.size = w.heap.size + 1 + 1 + 1 := by
  obtain ⟨V1, hV1⟩ : ∃ V1, w.alloc (.cells (cellsT x).toArray 29) = V1 := ⟨_, rfl⟩
  have hb1 : Below w.heap.size w V1 := by rw [← hV1]; exact (Below.refl _ w).alloc (Nat.le_refl _) _
  have hn1 : V1.heap[w.heap.size]? = some (.cells (cellsT x).toArray 29) := by rw [← hV1]; exact alloc_newM _ _
  have e1 : V1.heap.size = w.heap.size + 1 := by rw [← hV1]; simp
  obtain ⟨V2, hV2⟩ : ∃ V2, V1.alloc (.cells (cellsO o).toArray 34) = V2 := ⟨_, rfl⟩
  have hb2 : Below V1.heap.size V1 V2 := by rw [← hV2]; exact (Below.refl _ V1).alloc (Nat.le_refl _) _
  have hn2 : V2.heap[w.heap.size + 1]? = some (.cells (cellsO o).toArray 34) := by rw [← hV2, ← e1]; exact alloc_newM _ _
  have e2 : V2.heap.size = w.heap.size + 1 + 1 := by rw [← hV2, ← e1]; simp
  obtain ⟨V3, hV3⟩ : ∃ V3, V2.alloc zT = V3 := ⟨_, rfl⟩
  have hb3 : Below V2.heap.size V2 V3 := by rw [← hV3]; exact (Below.refl _ V2).alloc (Nat.le_refl _) _
  have hn3 : V3.heap[w.heap.size + 1 + 1]? = some zT := by rw [← hV3, ← e2]; exact alloc_newM _ _
  have e3 : V3.heap.size = w.heap.size + 1 + 1 + 1 := by rw [← hV3, ← e2]; simp
  rw [hV1, hV2, hV3]
  exact ⟨V3, rfl, ⟨heap_own hb3 (by omega) (heap_own hb2 (by omega) hn1), heap_own hb3 (by omega) hn2, hn3⟩, (hb1.trans (hb2.mono (by omega))).trans (hb3.mono (by omega)), e3⟩
end Se
end Go.Proofs.Ytoiikmfdoadkpaa
