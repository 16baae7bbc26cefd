/- Under: the pairs whose words begin with a text. -/
import Derived.Test.YthjlihhknaelaaaDoorWkTd
import Derived.Test.YthjlihhknaelaaaDoorUdMath
namespace Go.Proofs.YthjlihhknaelaaaDoor
open Go.RowKit Go.Shelf Nums Fm Pk Pm
set_option maxRecDepth 100000
attribute [local go_sem] Oper.semAt_some

theorem hasPrefixS_any (a h : ByteArray) (w : World) : Calls Tryd.prog 38 #[.string a, .string h] w fun e w' => e = .returned (.bool (hpB a h)) ∧ w' = w := by
  have HC : Hid (Calls Tryd.prog 53 #[.string a, .string h] w fun e w' => e = .returned (.bool (hpB a h)) ∧ w' = w) := hasPrefix_any a h w
  go_enter Tryd.func38, Tryd.ntmps38
  go_wp2_with (go_at_call 53; refine HC.out.mono ?_; rintro e w1 ⟨rfl, hw1⟩; rw [hw1]; clear hw1)
  go_ret
  exact ⟨rfl, rfl⟩
/-- What Under's function looks at. -/
structure US (w0 : World) (wb c0 c1 : Nat) (s : ByteArray) (A : Nat → Prop) (W : World) : Prop where
  bel : Below w0.heap.size w0 W
  loA : ∀ j, A j → w0.heap.size ≤ j
  x0 : W.cell? ⟨c0, 0, none⟩ = some (.pointer (some ⟨wb, 0, none⟩))
  x1 : W.cell? ⟨c1, 0, none⟩ = some (.string s)
  n1 : ¬ A c1
/-- What every round keeps, whatever is told. -/
structure UB (w0 W : World) (A : Nat → Prop) (yb c1 cw wb : Nat) (base : Int) (s : ByteArray) (yv : Value) (B : Nat) (A2 : Nat → Prop) (V : World) : Prop where
  ext : ∀ k, A k → A2 k
  ex2 : ∀ k, A2 k → A k ∨ B + 2 ≤ k
  upd : Upd A W V
  bel : Below w0.heap.size w0 V
  yc : V.cell? ⟨yb, 0, none⟩ = some yv
  cc : V.cell? ⟨c1, 0, none⟩ = some (.string s)
  s2 : S2f cw wb base V
/-- The bounds of a walk through. -/
structure UN (w0 W : World) (A : Nat → Prop) (yb c1 cw wb B : Nat) : Prop where
  w0W : w0.heap.size ≤ W.heap.size
  WB : W.heap.size + 3 ≤ B
  yb : yb = W.heap.size
  c1 : c1 < W.heap.size ∧ ¬ A c1
  cw : W.heap.size < cw ∧ cw < B
  wb : wb < w0.heap.size
  lies : Lies A W
  lo : ∀ k, A k → w0.heap.size ≤ k
variable {w0 W : World} {A A2 A3 : Nat → Prop} {yb c1 cw wb B : Nat} {base : Int} {s : ByteArray} {yv : Value} {V V' : World}
theorem UN.far (n : UN w0 W A yb c1 cw wb B) (h : UB w0 W A yb c1 cw wb base s yv B A2 V) : ¬ A2 yb ∧ ¬ A2 c1 ∧ ¬ A2 cw ∧ ¬ A2 wb := by
  have hW := n.WB
  have h0 := n.w0W
  refine ⟨fun e => ?_, fun e => ?_, fun e => ?_, fun e => ?_⟩
  · rcases h.ex2 _ e with g | g
    · have := n.lies _ g; have := n.yb; omega
    · have := n.yb; omega
  · rcases h.ex2 _ e with g | g
    · exact n.c1.2 g
    · have := n.c1.1; omega
  · rcases h.ex2 _ e with g | g
    · have := n.lies _ g; have := n.cw; omega
    · have := n.cw; omega
  · rcases h.ex2 _ e with g | g
    · have := n.lo _ g; have := n.wb; omega
    · have := n.wb; omega
theorem UB.step {F : Nat → Prop} (n : UN w0 W A yb c1 cw wb B) (h : UB w0 W A yb c1 cw wb base s yv B A2 V) (hu : Upd F V V') (hF : ∀ k, F k → A2 k ∨ B ≤ k) (e1 : ∀ k, A k → A3 k) (e2 : ∀ k, A3 k → A k ∨ B + 2 ≤ k) : UB w0 W A yb c1 cw wb base s yv B A3 V' := by
  obtain ⟨f1, f2, f3, f4⟩ := n.far h
  have hW := n.WB
  have h0 := n.w0W
  have hy := n.yb
  have hc := n.c1.1
  have hcw := n.cw
  have hwb := n.wb
  have nf : ∀ k, ¬ A2 k → k < B → ¬ F k := fun k h1 h2 h3 => (hF k h3).elim h1 (fun g => by omega)
  refine ⟨e1, e2, h.upd.trans hu (fun k hk g => (hF k g).elim (fun g => (h.ex2 k g).elim id (fun g => by omega)) (fun g => by omega)), h.bel.trans (hu.below h.bel.size fun k g => ?_), (World.cell?_of_block (a := ⟨yb, 0, none⟩) (hu.block yb (World.block_lt_of_cell? _ _ h.yc) (nf yb f1 (by omega)))).trans h.yc, (World.cell?_of_block (a := ⟨c1, 0, none⟩) (hu.block c1 (World.block_lt_of_cell? _ _ h.cc) (nf c1 f2 (by omega)))).trans h.cc, h.s2.upd hu (nf cw f3 (by omega)) (nf wb f4 (by omega))⟩
  rcases hF k g with g | g
  · rcases h.ex2 k g with g | g
    · exact n.lo k g
    · omega
  · omega
/-- Between two rounds. -/
def UI (w0 W : World) (A : Nat → Prop) (yb c1 cw wb : Nat) (base : Int) (s : ByteArray) (yv : Value) (B : Nat) (I : CI) : CI := fun A2 pre V => UB w0 W A yb c1 cw wb base s yv B A2 V ∧ (∀ p ∈ pre, hpB p.1 s = true) ∧ I A2 pre V
/-- Where no more is asked for. -/
def UX (w0 W : World) (A : Nat → Prop) (yb c1 cw wb : Nat) (base : Int) (s : ByteArray) (yv : Value) (B : Nat) (I X : CI) (c : Code) : CI := fun A2 pre V => c = .ret ∧ UB w0 W A yb c1 cw wb base s yv B A2 V ∧ ((∃ q x, pre = q ++ [x] ∧ hpB x.1 s = false ∧ (∀ p ∈ q, hpB p.1 s = true) ∧ I A2 q V) ∨ ((∀ p ∈ pre, hpB p.1 s = true) ∧ X A2 pre V))
theorem UI.minds {I : CI} (n : UN w0 W A yb c1 cw wb B) (hI : Minds W.heap.size I) : Minds B (UI w0 W A yb c1 cw wb base s yv B I) := by
  rintro A2 pre V V' ⟨h1, h2, h3⟩ hu
  exact ⟨h1.step n hu (fun k g => .inr g.2) h1.ext h1.ex2, h2, hI _ _ _ _ h3 (hu.mono fun k g => ⟨g.1, by have := n.WB; have := g.2; omega⟩)⟩
theorem UX.minds {I X : CI} (n : UN w0 W A yb c1 cw wb B) (hI : Minds W.heap.size I) (hX : Minds W.heap.size X) (c : Code) : Minds B (UX w0 W A yb c1 cw wb base s yv B I X c) := by
  rintro A2 pre V V' ⟨h0, h1, h2⟩ hu
  have hm : Upd (fun k => ¬ A2 k ∧ W.heap.size ≤ k) V V' := hu.mono fun k g => ⟨g.1, by have := n.WB; have := g.2; omega⟩
  refine ⟨h0, h1.step n hu (fun k g => .inr g.2) h1.ext h1.ex2, ?_⟩
  rcases h2 with ⟨q, x, e1, e2, e3, e4⟩ | ⟨e1, e2⟩
  · exact .inl ⟨q, x, e1, e2, e3, hI _ _ _ _ e4 hm⟩
  · exact .inr ⟨e1, hX _ _ _ _ e2 hm⟩
end Go.Proofs.YthjlihhknaelaaaDoor
