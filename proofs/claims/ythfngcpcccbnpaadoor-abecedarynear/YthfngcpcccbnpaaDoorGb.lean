/- Texts that were written apart, joined. -/
import Derived.Test.YthfngcpcccbnpaaDoorG0
import Derived.Test.YthfngcpcccbnpaaDoorG7
import Derived.Test.YthfngcpcccbnpaaDoorG8
import Derived.Deep.RegionHeld3
import Derived.Deep.DrawnRows
import Derived.Deep.QuietTactic
import Derived.BigQuiet
import Derived.Test.YthfngcpcccbnpaaDoorPBase
import Derived.Test.YthfngcpcccbnpaaDoorGh
/- Cut: what the seat's translation lacks is left out. -/
/- The reference's Build, over its Make. -/
namespace Go.Proofs.YthfngcpcccbnpaaDoor
open Go.RowKit Nums Fm Pm
set_option maxRecDepth 100000

/-- The block of the result. -/
structure RBlk (rb : Nat) (w : World) : Prop where
  blk : w.heap[rb]? = some (.cells #[.int .i64 0, .slice none 0 0] 58)
theorem RBlk.facts {rb : Nat} {w : World} (h : RBlk rb w) : w.cell? ⟨rb, 0, none⟩ = some (.int .i64 0) ∧ w.cell? ⟨rb, 1, none⟩ = some (.slice none 0 0) ∧ ∀ o, w.frozen? ⟨rb, o, none⟩ = false := ⟨by simp [World.cell?, h.blk], by simp [World.cell?, h.blk], fun o => by simp [World.frozen?, h.blk]⟩
theorem RBlk.below {rb : Nat} {w w' : World} (h : RBlk rb w) (hb : Below w.heap.size w w') : RBlk rb w' := ⟨(hb.block rb (Array.getElem?_eq_some_iff.1 h.blk).1).trans h.blk⟩
theorem RBlk.lt {rb : Nat} {w : World} (h : RBlk rb w) : rb < w.heap.size := (Array.getElem?_eq_some_iff.1 h.blk).1
theorem StRow.same {B : Nat} {w w' : World} {vs : Value} {b : List St} (h : StRow B w vs b) (he : ∀ g, B ≤ g → w'.heap[g]? = w.heap[g]?) : StRow B w' vs b := by
  obtain ⟨xss, h1, h2, h3⟩ := h
  refine ⟨xss, h1.same fun g hg => he g (h1.block hg).1, h2, fun i s hi => ?_⟩
  obtain ⟨va, e1, e2⟩ := h3 i s hi
  exact ⟨va, e1, GOwn.same e2 fun g hg => he g (GOwn.block e2 hg).1⟩
end Go.Proofs.YthfngcpcccbnpaaDoor

/- The reference's state: what is known, in memory. -/
namespace Go.Proofs.YthfngcpcccbnpaaDoor
open Go.RowKit Nums Fm Pm
set_option maxRecDepth 100000

namespace Fm
end Fm
/-- The blocks that are written in place. -/
def fpK (vR vS : Value) (j : Nat) : Prop := vR.ownBlock = some j ∨ vS.ownBlock = some j
/-- The row is the old one's block, or new. -/
def Newer (w : World) (v v' : Value) : Prop := v'.ownBlock = v.ownBlock ∨ ∃ q, v'.ownBlock = some q ∧ w.heap.size ≤ q
/-- States in memory, whose arcs lie in blocks of A. -/
structure StA (A : Nat → Prop) (B : Nat) (w : World) (vs : Value) (b : List St) : Prop where
  ex : ∃ xss, GOwn 100 3 B w vs xss ∧ xss.length = b.length ∧ ∀ (i : Nat) (s : St), b[i]? = some s → ∃ va, xss[i]? = some [.bool s.final, .int .i64 s.out, va] ∧ AOwn B w va s.arcs ∧ ∀ k, va.ownBlock = some k → A k
  lt : ∀ k, A k → k < w.heap.size
theorem StA.row {A : Nat → Prop} {B : Nat} {w : World} {vs : Value} {b : List St} (h : StA A B w vs b) : StRow B w vs b := by
  obtain ⟨xss, h1, h2, h3⟩ := h.ex
  exact ⟨xss, h1, h2, fun i s hi => by obtain ⟨va, e1, e2, _⟩ := h3 i s hi; exact ⟨va, e1, e2⟩⟩
theorem StA.shape {A : Nat → Prop} {B : Nat} {w : World} {vs : Value} {b : List St} (h : StA A B w vs b) : ∃ ad cap, vs = .slice ad b.length cap := h.row.shape
/-- Nothing of it is written. -/
theorem StA.kept {A : Nat → Prop} {B : Nat} {w w' : World} {vs : Value} {b : List St} (h : StA A B w vs b) (hs : w.heap.size ≤ w'.heap.size) (hv : ∀ j, vs.ownBlock = some j → w'.heap[j]? = w.heap[j]?) (hA : ∀ (j : Nat) (cur : Array Value), A j → w.heap[j]? = some (Obj.cells cur 121 (0, 0)) → w'.heap[j]? = w.heap[j]?) : StA A B w' vs b := by
  obtain ⟨xss, h1, h2, h3⟩ := h.ex
  refine ⟨⟨xss, h1.same hv, h2, fun i s hi => ?_⟩, fun k hk => Nat.lt_of_lt_of_le (h.lt k hk) hs⟩
  obtain ⟨va, e1, e2, e3⟩ := h3 i s hi
  exact ⟨va, e1, GOwn.same e2 fun g hg => (by obtain ⟨_, cur, hc⟩ := GOwn.block e2 hg; exact hA g cur (e3 g hg) hc), e3⟩
theorem StA.below {A : Nat → Prop} {B : Nat} {w w' : World} {vs : Value} {b : List St} (h : StA A B w vs b) (hb : Below w.heap.size w w') : StA A B w' vs b := by
  obtain ⟨xss, h1, _, _⟩ := h.ex
  exact h.kept hb.size (fun j hj => hb.block j (h1.lt hj)) (fun j _ hj _ => hb.block j (h.lt j hj))
/-- What is known behind a call. -/
structure KSays (A A' : Nat → Prop) (E B : Nat) (w w' : World) (vR vS vR' vS' : Value) (D : List (List En)) (b : List St) : Prop where
  rests : AllOwn E B w' vR' D
  states : StA A' B w' vS' b
  sub : ∀ j, A' j → A j ∨ w.heap.size ≤ j
  upd : Upd (fpK vR vS) w w'
  ownR : Newer w vR vR'
  ownS : Newer w vS vS'
theorem Newer.refl (w : World) (v : Value) : Newer w v v := .inl rfl
theorem Newer.trans {w w1 : World} {v v1 v2 : Value} (h1 : Newer w v v1) (h2 : Newer w1 v1 v2) (hs : w.heap.size ≤ w1.heap.size) : Newer w v v2 := by
  rcases h2 with h2 | ⟨q, h2, hq⟩
  · rcases h1 with h1 | ⟨q, h1, hq⟩
    · exact .inl (h2.trans h1)
    · exact .inr ⟨q, h2.trans h1, hq⟩
  · exact .inr ⟨q, h2, Nat.le_trans hs hq⟩
theorem Newer.low {w : World} {v v' : Value} (h : Newer w v v') {j : Nat} (hj : j < w.heap.size) (e : v'.ownBlock = some j) : v.ownBlock = some j := by
  rcases h with h | ⟨q, h, hq⟩
  · rw [← h]; exact e
  · rw [h] at e; cases e; omega
theorem KSays.refl {A : Nat → Prop} {E B : Nat} {w : World} {vR vS : Value} {D : List (List En)} {b : List St} (h1 : AllOwn E B w vR D) (h2 : StA A B w vS b) : KSays A A E B w w vR vS vR vS D b := ⟨h1, h2, fun _ h => .inl h, Upd.refl _ _, Newer.refl _ _, Newer.refl _ _⟩
theorem KSays.trans {A A1 A2 : Nat → Prop} {E B : Nat} {w w1 w2 : World} {vR vS vR1 vS1 vR2 vS2 : Value} {D1 D2 : List (List En)} {b1 b2 : List St} (h1 : KSays A A1 E B w w1 vR vS vR1 vS1 D1 b1) (h2 : KSays A1 A2 E B w1 w2 vR1 vS1 vR2 vS2 D2 b2) : KSays A A2 E B w w2 vR vS vR2 vS2 D2 b2 :=
  ⟨h2.rests, h2.states, fun j hj => by
    rcases h2.sub j hj with h | h
    · exact h1.sub j h
    · exact .inr (Nat.le_trans h1.upd.size h), h1.upd.trans h2.upd (fun j hj hf => by
    rcases hf with hf | hf
    · exact .inl (h1.ownR.low hj hf)
    · exact .inr (h1.ownS.low hj hf)), h1.ownR.trans h2.ownR h1.upd.size, h1.ownS.trans h2.ownS h1.upd.size⟩
/-- A row of another type is not written. -/
theorem GOwn.over {T : TypeId} {k B : Nat} {w w' : World} {v vR vS : Value} {xss yss zss : List (List Value)} {BR BS : Nat} (h : GOwn T k B w v xss) (hR : GOwn 106 1 BR w vR yss) (hS : GOwn 100 3 BS w vS zss) (h1 : T ≠ 106) (h2 : T ≠ 100) (hu : Upd (fpK vR vS) w w') : GOwn T k B w' v xss := by
  refine h.same fun g hg => hu.block g (h.lt hg) fun hf => ?_
  obtain ⟨_, c1, e1⟩ := h.block hg
  rcases hf with hf | hf
  · obtain ⟨_, c2, e2⟩ := hR.block hf
    rw [e1] at e2
    simp only [Option.some.injEq, Obj.cells.injEq] at e2
    exact h1 e2.2.1
  · obtain ⟨_, c2, e2⟩ := hS.block hf
    rw [e1] at e2
    simp only [Option.some.injEq, Obj.cells.injEq] at e2
    exact h2 e2.2.1
/-- Rows of other types are written alone. -/
theorem AllOwn.typed {E B : Nat} {w w' : World} {v : Value} {Ds : List (List En)} (h : AllOwn E B w v Ds) (h1 : ∀ (j : Nat) (cur : Array Value), w.heap[j]? = some (Obj.cells cur 106 (0, 0)) → w'.heap[j]? = w.heap[j]?) (h2 : ∀ (j : Nat) (cur : Array Value), w.heap[j]? = some (Obj.cells cur 139 (0, 0)) → w'.heap[j]? = w.heap[j]?) (hE : Below E w w') : AllOwn E B w' v Ds := by
  obtain ⟨xss, a1, a2, a3⟩ := h.ex
  refine ⟨xss, a1.same fun g hg => (by obtain ⟨_, cur, hc⟩ := a1.block hg; exact h1 g cur hc), a2, fun i R hi => ?_⟩
  obtain ⟨u, e1, e2⟩ := a3 i R hi
  obtain ⟨yss, b1, b2, b3⟩ := e2.ex
  refine ⟨u, e1, ⟨yss, b1.same fun g hg => (by obtain ⟨_, cur, hc⟩ := b1.block hg; exact h2 g cur hc), b2, fun j e hj => ?_⟩⟩
  obtain ⟨q, d1, d2, d3⟩ := b3 j e hj
  exact ⟨q, d1, d2.below hE, d3⟩
theorem RMade.typed {E B : Nat} {w w' : World} {v : Value} {S : List En} (h : RMade E B w v S) (h2 : ∀ (j : Nat) (cur : Array Value), w.heap[j]? = some (Obj.cells cur 139 (0, 0)) → w'.heap[j]? = w.heap[j]?) (hE : Below E w w') : RMade E B w' v S := by
  obtain ⟨yss, b1, b2, b3⟩ := h.ex
  refine ⟨yss, b1.same fun g hg => (by obtain ⟨_, cur, hc⟩ := b1.block hg; exact h2 g cur hc), b2, fun j e hj => ?_⟩
  obtain ⟨q, d1, d2, d3⟩ := b3 j e hj
  exact ⟨q, d1, d2.below hE, d3⟩
end Go.Proofs.YthfngcpcccbnpaaDoor

/- The reference's state: what is in memory on its way. -/
namespace Go.Proofs.YthfngcpcccbnpaaDoor
open Go.RowKit Nums Fm Pm
set_option maxRecDepth 100000

/-- A block of what is known. -/
structure KBlk (kb : Nat) (x y : Value) (w : World) : Prop where
  blk : w.heap[kb]? = some (.cells #[x, y] 110)
theorem KBlk.facts {kb : Nat} {x y : Value} {w : World} (h : KBlk kb x y w) : w.cell? ⟨kb, 0, none⟩ = some x ∧ w.cell? ⟨kb, 1, none⟩ = some y ∧ ∀ o, w.frozen? ⟨kb, o, none⟩ = false := ⟨by simp [World.cell?, h.blk], by simp [World.cell?, h.blk], fun o => by simp [World.frozen?, h.blk]⟩
theorem KBlk.lt {kb : Nat} {x y : Value} {w : World} (h : KBlk kb x y w) : kb < w.heap.size := (Array.getElem?_eq_some_iff.1 h.blk).1
theorem KBlk.below {kb : Nat} {x y : Value} {w w' : World} (h : KBlk kb x y w) (hb : Below w.heap.size w w') : KBlk kb x y w' := ⟨(hb.block kb h.lt).trans h.blk⟩
/-- What state is asked with. -/
structure StIn (A : Nat → Prop) (f E B : Nat) (w : World) (vR vS vl : Value) (D : List (List En)) (b : List St) (S : List En) : Prop where
  inv : Inv D b
  good : Fm.Good f S
  rests : AllOwn E B w vR D
  states : StA A B w vS b
  row : RR E w vl S
  eb : E ≤ B
  bw : B ≤ w.heap.size
  len : (refF f D b S).1.length ≤ 1048576
  sml : ∀ R ∈ (refF f D b S).1, SmallR R
  wts : ∀ e ∈ S, 0 ≤ e.2 ∧ e.2 ≤ 1048576
theorem StIn.own {A : Nat → Prop} {f E B : Nat} {w : World} {vR vS vl : Value} {D : List (List En)} {b : List St} {S : List En} (h : StIn A (f + 1) E B w vR vS vl D b S) : SmallR (level S) := by
  refine h.sml _ ?_
  rw [refF]
  split
  · assumption
  · simp
namespace Fm
end Fm
/-- The block of a state. -/
structure SBlk (sb : Nat) (x y z : Value) (w : World) : Prop where
  blk : w.heap[sb]? = some (.cells #[x, y, z] 100)
theorem SBlk.facts {sb : Nat} {x y z : Value} {w : World} (h : SBlk sb x y z w) : w.cell? ⟨sb, 0, none⟩ = some x ∧ w.cell? ⟨sb, 1, none⟩ = some y ∧ w.cell? ⟨sb, 2, none⟩ = some z ∧ ∀ o, w.frozen? ⟨sb, o, none⟩ = false := ⟨by simp [World.cell?, h.blk], by simp [World.cell?, h.blk], by simp [World.cell?, h.blk], fun o => by simp [World.frozen?, h.blk]⟩
theorem SBlk.lt {sb : Nat} {x y z : Value} {w : World} (h : SBlk sb x y z w) : sb < w.heap.size := (Array.getElem?_eq_some_iff.1 h.blk).1
theorem SBlk.below {sb : Nat} {x y z : Value} {w w' : World} (h : SBlk sb x y z w) (hb : Below w.heap.size w w') : SBlk sb x y z w' := ⟨(hb.block sb h.lt).trans h.blk⟩
theorem SBlk.set0 {sb : Nat} {x y z : Value} {w : World} (h : SBlk sb x y z w) (u : Value) : SBlk sb u y z (w.setCell ⟨sb, 0, none⟩ u) := ⟨by rw [set_at h.blk]; rfl⟩
theorem SBlk.set1 {sb : Nat} {x y z : Value} {w : World} (h : SBlk sb x y z w) (u : Value) : SBlk sb x u z (w.setCell ⟨sb, 1, none⟩ u) := ⟨by rw [set_at h.blk]; rfl⟩
theorem Upd.set2 (kb : Nat) (x y : Value) (w : World) : Upd (fun j => j = kb) w ((w.setCell ⟨kb, 0, none⟩ x).setCell ⟨kb, 1, none⟩ y) := by
  obtain ⟨a1, a2, a3, a4⟩ := set_rest w kb 0 x
  obtain ⟨b1, b2, b3, b4⟩ := set_rest (w.setCell ⟨kb, 0, none⟩ x) kb 1 y
  exact ⟨b1.trans a1, b2.trans a2, b3.trans a3, Nat.le_of_eq (b4.trans a4).symm, fun j _ hj => (set_other _ _ _ _ hj).trans (set_other _ _ _ _ hj)⟩
theorem KBlk.set2 {kb : Nat} {x y : Value} {w : World} (h : KBlk kb x y w) (u v : Value) : KBlk kb u v ((w.setCell ⟨kb, 0, none⟩ u).setCell ⟨kb, 1, none⟩ v) := ⟨by rw [set_at (set_at h.blk u)]; rfl⟩
theorem IOwn.get {B : Nat} {w : World} {fg n cap k : Nat} {xs : List Int} {c : Int} (h : IOwn B w (.slice (some ⟨fg, 0, none⟩) n cap) xs) (hk : xs[k]? = some c) : w.cell? ⟨fg, k, none⟩ = some (.int .i32 c) := by
  have hl := (List.getElem?_eq_some_iff.1 hk).1
  obtain ⟨g, cp, e, _, _, _, hc⟩ := GOwn.cell h (by rw [List.length_map]; omega)
  simp only [Value.slice.injEq, Option.some.injEq, Addr.mk.injEq, and_true] at e
  have := hc k 0 (cellI c) (.int .i32 c) (by rw [List.getElem?_map, hk]; rfl) rfl
  rw [e.1]
  simpa using this
structure S19 (sb fg k : Nat) (va : Value) (c : Int) (w : World) : Prop where
  a : w.cell? ⟨sb, 2, none⟩ = some va
  b : w.cell? ⟨fg, k, none⟩ = some (.int .i32 c)
theorem S19.facts {sb fg k : Nat} {va : Value} {c : Int} {w : World} (h : S19 sb fg k va c w) : w.cell? ⟨sb, 2, none⟩ = some va ∧ w.cell? ⟨fg, k, none⟩ = some (.int .i32 c) := ⟨h.a, h.b⟩
end Go.Proofs.YthfngcpcccbnpaaDoor
