/- The reference's Unpack: what lies in memory while it reads. -/
import Derived.Test.YtllmdfkiogmofaaGreatDoorUfMath
import Derived.Test.YtllmdfkiogmofaaGreatDoorK2
import Derived.Test.YtllmdfkiogmofaaGreatDoorK0
namespace Go.Proofs.YtllmdfkiogmofaaGreatDoor
open Go.RowKit Nums Fm Pk
set_option maxRecDepth 100000

/-- A reader of the reference in its block. -/
def RB (W : World) (b : Nat) (vb : Value) (n : Nat) (e : Int) : Prop := W.heap[b]? = some (.cells #[vb, .int .i64 (n : Int), .int .i64 e] 55 (0, 0))
theorem RB.facts {W : World} {b : Nat} {vb : Value} {n : Nat} {e : Int} (h : RB W b vb n e) : W.cell? ⟨b, 0, none⟩ = some vb ∧ W.cell? ⟨b, 1, none⟩ = some (.int .i64 (n : Int)) ∧ W.cell? ⟨b, 2, none⟩ = some (.int .i64 e) ∧ ∀ o, W.frozen? ⟨b, o, none⟩ = false := by
  unfold RB at h
  exact ⟨by simp [World.cell?, h], by simp [World.cell?, h], by simp [World.cell?, h], fun o => by simp [World.frozen?, h]⟩
theorem RB.lt {W : World} {b : Nat} {vb : Value} {n : Nat} {e : Int} (h : RB W b vb n e) : b < W.heap.size := (Array.getElem?_eq_some_iff.1 h).1
/-- A reader stored. -/
def set3 (W : World) (b : Nat) (x y z : Value) : World := ((W.setCell ⟨b, 0, none⟩ x).setCell ⟨b, 1, none⟩ y).setCell ⟨b, 2, none⟩ z
theorem RB.put {W : World} {b : Nat} {vb : Value} {n : Nat} {e : Int} (h : RB W b vb n e) (vb' : Value) (n' : Nat) (e' : Int) : RB (set3 W b vb' (.int .i64 (n' : Int)) (.int .i64 e')) b vb' n' e' := by
  unfold RB at h ⊢
  unfold set3
  rw [set_at (set_at (set_at h _) _) _]
  rfl
theorem set3_other (W : World) (b : Nat) (x y z : Value) {k : Nat} (hk : k ≠ b) : (set3 W b x y z).heap[k]? = W.heap[k]? := (set_other _ _ _ _ hk).trans ((set_other _ _ _ _ hk).trans (set_other _ _ _ _ hk))
theorem set3_rest (W : World) (b : Nat) (x y z : Value) : (set3 W b x y z).os = W.os ∧ (set3 W b x y z).tape = W.tape ∧ (set3 W b x y z).output = W.output ∧ (set3 W b x y z).heap.size = W.heap.size := by
  obtain ⟨a1, a2, a3, a4⟩ := set_rest W b 0 x
  obtain ⟨b1, b2, b3, b4⟩ := set_rest (W.setCell ⟨b, 0, none⟩ x) b 1 y
  obtain ⟨c1, c2, c3, c4⟩ := set_rest ((W.setCell ⟨b, 0, none⟩ x).setCell ⟨b, 1, none⟩ y) b 2 z
  exact ⟨c1.trans (b1.trans a1), c2.trans (b2.trans a2), c3.trans (b3.trans a3), c4.trans (b4.trans a4)⟩
theorem ty_neU {w : World} {a b : Nat} {c d : Array Value} {S T : TypeId} (h : w.heap[a]? = some (.cells c S (0, 0))) (k : w.heap[b]? = some (.cells d T (0, 0))) (hne : S ≠ T) : a ≠ b := fun e => by
  subst e
  rw [h] at k
  simp only [Option.some.injEq, Obj.cells.injEq] at k
  exact hne k.2.1
/-- Between two states. -/
structure UW (w W : World) (qb rb mb : Nat) (vb : Value) (n : Nat) (e base : Int) (vs : Value) (m : List RSt) : Prop where
  bel : Below w.heap.size w W
  qlo : w.heap.size ≤ qb
  rlo : w.heap.size ≤ rb
  mlo : w.heap.size ≤ mb
  ne : qb ≠ mb
  res : W.heap[qb]? = some (.cells #[.int .i64 0, .slice none 0 0] 26 (0, 0))
  rd : RB W rb vb n e
  box : W.heap[mb]? = some (.cells #[.int .i64 base, vs] 26 (0, 0))
  row : MRow w.heap.size W vs m
section
variable {w W W' W0 : World} {qb rb mb sb pb : Nat} {vb : Value} {n n0 : Nat} {e e0 base : Int} {vs va : Value} {m : List RSt} {fn : Bool} {ot : Int} {arcs : List RArc}
theorem UW.below (h : UW w W qb rb mb vb n e base vs m) (hb : Below W.heap.size W W') : UW w W' qb rb mb vb n e base vs m :=
  ⟨h.bel.trans (hb.mono h.bel.size), h.qlo, h.rlo, h.mlo, h.ne, (hb.block qb (Array.getElem?_eq_some_iff.1 h.res).1).trans h.res, (hb.block rb h.rd.lt).trans h.rd, (hb.block mb (Array.getElem?_eq_some_iff.1 h.box).1).trans h.box, h.row.below hb⟩
theorem UW.facts (h : UW w W qb rb mb vb n e base vs m) : W.cell? ⟨mb, 0, none⟩ = some (.int .i64 base) ∧ W.cell? ⟨mb, 1, none⟩ = some vs ∧ (∀ o, W.frozen? ⟨mb, o, none⟩ = false) ∧ W.cell? ⟨qb, 0, none⟩ = some (.int .i64 0) ∧ W.cell? ⟨qb, 1, none⟩ = some (.slice none 0 0) ∧ (∀ o, W.frozen? ⟨qb, o, none⟩ = false) :=
  ⟨by simp [World.cell?, h.box], by simp [World.cell?, h.box], fun o => by simp [World.frozen?, h.box], by simp [World.cell?, h.res], by simp [World.cell?, h.res], fun o => by simp [World.frozen?, h.res]⟩
/-- The reader moved on. -/
theorem UW.put (h : UW w W qb rb mb vb n e base vs m) (n' : Nat) (e' : Int) : UW w (set3 W rb vb (.int .i64 (n' : Int)) (.int .i64 e')) qb rb mb vb n' e' base vs m := by
  obtain ⟨r1, r2, r3, r4⟩ := set3_rest W rb vb (.int .i64 (n' : Int)) (.int .i64 e')
  refine ⟨h.bel.trans ⟨r1, r2, r3, by omega, fun j hj => set3_other _ _ _ _ _ (by have := h.rlo; omega)⟩, h.qlo, h.rlo, h.mlo, h.ne, (set3_other _ _ _ _ _ (ty_neU h.res h.rd (by decide))).trans h.res, h.rd.put _ _ _, (set3_other _ _ _ _ _ (ty_neU h.box h.rd (by decide))).trans h.box, ?_⟩
  exact h.row.same (fun j cur _ hj _ => set3_other _ _ _ _ _ (ty_neU hj h.rd (by decide))) (fun j cur _ hj => set3_other _ _ _ _ _ (ty_neU hj h.rd (by decide)))
theorem UW.base' (h : UW w W qb rb mb vb n e base vs m) (b2 : Int) : UW w (W.setCell ⟨mb, 0, none⟩ (.int .i64 b2)) qb rb mb vb n e b2 vs m := by
  refine ⟨h.bel.setCell h.mlo _, h.qlo, h.rlo, h.mlo, h.ne, (set_other _ _ _ _ h.ne).trans h.res, (set_other _ _ _ _ (ty_neU h.rd h.box (by decide))).trans h.rd, by rw [set_at h.box]; rfl, ?_⟩
  exact h.row.same (fun j cur _ hj _ => set_other _ _ _ _ (ty_neU hj h.box (by decide))) (fun j cur _ hj => set_other _ _ _ _ (ty_neU hj h.box (by decide)))
/-- While a state is read. -/
structure IW (W0 W : World) (rb : Nat) (vb : Value) (n : Nat) (e : Int) (sb : Nat) (fn : Bool) (ot : Int) (va : Value) (arcs : List RArc) : Prop where
  but : Cd.But rb W0 W
  rlt : rb < W0.heap.size
  rd : RB W rb vb n e
  slo : W0.heap.size ≤ sb
  box : W.heap[sb]? = some (.cells #[.bool fn, .int .i64 ot, va] 61 (0, 0))
  row : GOwn 63 3 W0.heap.size W va (arcs.map cellsRA)
theorem IW.facts (h : IW W0 W rb vb n e sb fn ot va arcs) : W.cell? ⟨sb, 0, none⟩ = some (.bool fn) ∧ W.cell? ⟨sb, 1, none⟩ = some (.int .i64 ot) ∧ W.cell? ⟨sb, 2, none⟩ = some va ∧ ∀ o, W.frozen? ⟨sb, o, none⟩ = false :=
  ⟨by simp [World.cell?, h.box], by simp [World.cell?, h.box], by simp [World.cell?, h.box], fun o => by simp [World.frozen?, h.box]⟩
theorem IW.below (h : IW W0 W rb vb n e sb fn ot va arcs) (hb : Below W.heap.size W W') : IW W0 W' rb vb n e sb fn ot va arcs :=
  ⟨h.but.trans (Cd.But.of_below hb), h.rlt, (hb.block rb h.rd.lt).trans h.rd, h.slo, (hb.block sb (Array.getElem?_eq_some_iff.1 h.box).1).trans h.box, h.row.below hb⟩
theorem IW.put (h : IW W0 W rb vb n e sb fn ot va arcs) (n' : Nat) (e' : Int) : IW W0 (set3 W rb vb (.int .i64 (n' : Int)) (.int .i64 e')) rb vb n' e' sb fn ot va arcs := by
  obtain ⟨r1, r2, r3, r4⟩ := set3_rest W rb vb (.int .i64 (n' : Int)) (.int .i64 e')
  refine ⟨h.but.trans ⟨r1, r2, r3, by omega, fun j _ hn => set3_other _ _ _ _ _ hn⟩, h.rlt, h.rd.put _ _ _, h.slo, (set3_other _ _ _ _ _ (ty_neU h.box h.rd (by decide))).trans h.box, GOwn.same h.row fun g hg => set3_other _ _ _ _ _ ?_⟩
  obtain ⟨_, cur, hc⟩ := GOwn.block h.row hg
  exact ty_neU hc h.rd (by decide)
/-- Another reader stored. -/
theorem IW.other (h : IW W0 W rb vb n e sb fn ot va arcs) {vb2 : Value} {n2 : Nat} {e2 : Int} (hp : RB W pb vb2 n2 e2) (hpl : W0.heap.size ≤ pb) (n' : Nat) (e' : Int) : IW W0 (set3 W pb vb (.int .i64 (n' : Int)) (.int .i64 e')) rb vb n e sb fn ot va arcs := by
  obtain ⟨r1, r2, r3, r4⟩ := set3_rest W pb vb (.int .i64 (n' : Int)) (.int .i64 e')
  have hne : rb ≠ pb := by have := h.rlt; omega
  refine ⟨⟨r1.trans h.but.os, r2.trans h.but.tape, r3.trans h.but.output, by rw [r4]; exact h.but.size, fun j hj hn => (set3_other _ _ _ _ _ (by omega)).trans (h.but.block j hj hn)⟩, h.rlt, (set3_other _ _ _ _ _ hne).trans h.rd, h.slo, (set3_other _ _ _ _ _ (ty_neU h.box hp (by decide))).trans h.box, GOwn.same h.row fun g hg => set3_other _ _ _ _ _ ?_⟩
  obtain ⟨_, cur, hc⟩ := GOwn.block h.row hg
  exact ty_neU hc hp (by decide)
theorem IW.set (h : IW W0 W rb vb n e sb fn ot va arcs) (o : Nat) (u : Value) {fn' : Bool} {ot' : Int} (hu : (#[.bool fn, .int .i64 ot, va] : Array Value).setIfInBounds o u = #[.bool fn', .int .i64 ot', va]) : IW W0 (W.setCell ⟨sb, o, none⟩ u) rb vb n e sb fn' ot' va arcs := by
  have hrs := set_rest W sb o u
  refine ⟨⟨hrs.1.trans h.but.os, hrs.2.1.trans h.but.tape, hrs.2.2.1.trans h.but.output, by rw [hrs.2.2.2]; exact h.but.size, fun j hj hn => (set_other _ _ _ _ (by have := h.slo; omega)).trans (h.but.block j hj hn)⟩, h.rlt, (set_other _ _ _ _ (ty_neU h.rd h.box (by decide))).trans h.rd, h.slo, by rw [set_at h.box, hu], GOwn.same h.row fun g hg => set_other _ _ _ _ ?_⟩
  obtain ⟨_, cur, hc⟩ := GOwn.block h.row hg
  exact ty_neU hc h.box (by decide)
/-- One arc more. -/
theorem IW.arc {va' : Value} {x : RArc} {o : Obj} (h : IW W0 W rb vb n e sb fn ot va arcs) (ho : GOwn 63 3 W0.heap.size W' va' (arcs.map cellsRA ++ [cellsRA x])) (hg : (W.alloc o).grownBy W' va.ownBlock) : IW W0 (W'.setCell ⟨sb, 2, none⟩ va') rb vb n e sb fn ot va' (arcs ++ [x]) ∧ W'.cell? ⟨sb, 2, none⟩ = some va ∧ ∀ c, W'.frozen? ⟨sb, c, none⟩ = false := by
  have hA : ∀ j, j < W.heap.size → (W.alloc o).heap[j]? = W.heap[j]? := fun j hj => (MapKept.heap_alloc _ _).2 j hj
  have hty : ∀ (j : Nat) (cur : Array Value) (T : TypeId) , W.heap[j]? = some (Obj.cells cur T (0, 0)) → T ≠ 63 → W'.heap[j]? = W.heap[j]? := fun j cur T hj hT => by
    have hjl := (Array.getElem?_eq_some_iff.1 hj).1
    refine (hg.block j (by simp; omega) (fun e => ?_)).trans (hA j hjl)
    obtain ⟨_, c2, hc2⟩ := GOwn.block h.row e.symm
    rw [hj] at hc2
    simp only [Option.some.injEq, Obj.cells.injEq] at hc2
    exact hT hc2.2.1
  have hlow : ∀ j, j < W0.heap.size → W'.heap[j]? = W.heap[j]? := fun j hj => by
    refine (hg.block j (by have := h.but.size; simp; omega) (fun e => ?_)).trans (hA j (by have := h.but.size; omega))
    have := (GOwn.block h.row e.symm).1
    omega
  have hbx := (hty sb _ _ h.box (by decide)).trans h.box
  have hrd : RB W' rb vb n e := (hty rb _ _ h.rd (by decide)).trans h.rd
  have hrs := set_rest W' sb 2 va'
  have hsz : W.heap.size ≤ W'.heap.size := Nat.le_trans (by simp) hg.size
  refine ⟨⟨?_, h.rlt, (set_other _ _ _ _ (ty_neU hrd hbx (by decide))).trans hrd, h.slo, by rw [set_at hbx]; rfl, ?_⟩, by simp [World.cell?, hbx], fun c => by simp [World.frozen?, hbx]⟩
  · exact ⟨hrs.1.trans (hg.os.trans h.but.os), hrs.2.1.trans (hg.tape.trans h.but.tape), hrs.2.2.1.trans (hg.output.trans h.but.output), by rw [hrs.2.2.2]; exact Nat.le_trans h.but.size hsz, fun j hj hn => (set_other _ _ _ _ (by have := h.slo; omega)).trans ((hlow j hj).trans (h.but.block j hj hn))⟩
  · rw [List.map_append]
    refine GOwn.same ho fun g hg2 => set_other _ _ _ _ ?_
    obtain ⟨_, c2, hc2⟩ := GOwn.block ho hg2
    exact ty_neU hc2 hbx (by decide)
/-- The state is read. -/
theorem UW.of (h : UW w W0 qb rb mb vb n0 e0 base vs m) (k : IW W0 W rb vb n e sb fn ot va arcs) : UW w W qb rb mb vb n e base vs m := by
  have hb : ∀ j, j < W0.heap.size → j ≠ rb → W.heap[j]? = W0.heap[j]? := k.but.block
  refine ⟨h.bel.trans (k.but.below h.rlo h.bel.size), h.qlo, h.rlo, h.mlo, h.ne, (hb qb (Array.getElem?_eq_some_iff.1 h.res).1 (ty_neU h.res h.rd (by decide))).trans h.res, k.rd, (hb mb (Array.getElem?_eq_some_iff.1 h.box).1 (ty_neU h.box h.rd (by decide))).trans h.box, ?_⟩
  exact h.row.same (fun j cur _ hj _ => hb j (Array.getElem?_eq_some_iff.1 hj).1 (ty_neU hj h.rd (by decide))) (fun j cur _ hj => hb j (Array.getElem?_eq_some_iff.1 hj).1 (ty_neU hj h.rd (by decide)))
/-- One state more. -/
theorem UW.state {vs' : Value} {s : RSt} {o : Obj} {xss : List (List Value)} (h : UW w W qb rb mb vb n e base vs m)
    (hX : GOwn 61 3 w.heap.size W vs xss) (hxl : xss.length = m.length) (hxe : ∀ (i : Nat) (s : RSt), m[i]? = some s → ∃ va, xss[i]? = some [.bool s.final, .int .i64 s.out, va] ∧ GOwn 63 3 w.heap.size W va (s.arcs.map cellsRA)) (ha : GOwn 63 3 w.heap.size W va (s.arcs.map cellsRA))
    (ho : GOwn 61 3 w.heap.size W' vs' (xss ++ [[.bool s.final, .int .i64 s.out, va]])) (hg : (W.alloc o).grownBy W' vs.ownBlock) : UW w (W'.setCell ⟨mb, 1, none⟩ vs') qb rb mb vb n e base vs' (m ++ [s]) ∧ W'.cell? ⟨mb, 1, none⟩ = some vs ∧ ∀ c, W'.frozen? ⟨mb, c, none⟩ = false := by
  have hA : ∀ j, j < W.heap.size → (W.alloc o).heap[j]? = W.heap[j]? := fun j hj => (MapKept.heap_alloc _ _).2 j hj
  have hty : ∀ (j : Nat) (cur : Array Value) (T : TypeId) , W.heap[j]? = some (Obj.cells cur T (0, 0)) → T ≠ 61 → W'.heap[j]? = W.heap[j]? := fun j cur T hj hT => by
    have hjl := (Array.getElem?_eq_some_iff.1 hj).1
    refine (hg.block j (by simp; omega) (fun e => ?_)).trans (hA j hjl)
    obtain ⟨_, c2, hc2⟩ := GOwn.block hX e.symm
    rw [hj] at hc2
    simp only [Option.some.injEq, Obj.cells.injEq] at hc2
    exact hT hc2.2.1
  have hlow : ∀ j, j < w.heap.size → W'.heap[j]? = W.heap[j]? := fun j hj => by
    refine (hg.block j (by have := h.bel.size; simp; omega) (fun e => ?_)).trans (hA j (by have := h.bel.size; omega))
    have := (GOwn.block hX e.symm).1
    omega
  have hbx := (hty mb _ _ h.box (by decide)).trans h.box
  have hrd : RB W' rb vb n e := (hty rb _ _ h.rd (by decide)).trans h.rd
  have hrs := set_rest W' mb 1 vs'
  have hsz : W.heap.size ≤ W'.heap.size := Nat.le_trans (by simp) hg.size
  have harc : ∀ {u l}, GOwn 63 3 w.heap.size W u l → GOwn 63 3 w.heap.size (W'.setCell ⟨mb, 1, none⟩ vs') u l := fun hu => GOwn.same hu fun g hg2 => (by
    obtain ⟨_, cur, hc⟩ := GOwn.block hu hg2
    have e1 := hty g cur _ hc (by decide)
    exact (set_other _ _ _ _ (ty_neU (e1.trans hc) hbx (by decide))).trans e1)
  refine ⟨⟨?_, h.qlo, h.rlo, h.mlo, h.ne, (set_other _ _ _ _ h.ne).trans ((hty qb _ _ h.res (by decide)).trans h.res), (set_other _ _ _ _ (ty_neU hrd hbx (by decide))).trans hrd, by rw [set_at hbx]; rfl, ⟨xss ++ [[.bool s.final, .int .i64 s.out, va]], GOwn.same ho fun g hg2 => ?_, by simp [hxl], fun i t hi => ?_⟩⟩, by simp [World.cell?, hbx], fun c => by simp [World.frozen?, hbx]⟩
  · exact ⟨hrs.1.trans (hg.os.trans h.bel.os), hrs.2.1.trans (hg.tape.trans h.bel.tape), hrs.2.2.1.trans (hg.output.trans h.bel.output), by rw [hrs.2.2.2]; exact Nat.le_trans h.bel.size hsz, fun j hj => (set_other _ _ _ _ (by have := h.mlo; omega)).trans ((hlow j hj).trans (h.bel.block j hj))⟩
  · obtain ⟨_, cur, hc⟩ := GOwn.block ho hg2
    exact set_other _ _ _ _ (ty_neU hc hbx (by decide))
  · by_cases hi2 : i < m.length
    · rw [List.getElem?_append_left hi2] at hi
      obtain ⟨u, g1, g2⟩ := hxe i t hi
      exact ⟨u, by rw [List.getElem?_append_left (by omega)]; exact g1, harc g2⟩
    · have hi3 : i = m.length := by
        have := (List.getElem?_eq_some_iff.1 hi).1
        simp at this
        omega
      subst hi3
      rw [List.getElem?_append_right (Nat.le_refl _)] at hi
      simp at hi
      subst hi
      exact ⟨va, by rw [List.getElem?_append_right (by omega), hxl]; simp, harc ha⟩
end
/-- Bounds of what the reference has read. -/
def MBr (m : List RSt) : Prop := ∀ s ∈ m, (∀ a ∈ s.arcs, OkRA a) ∧ s.arcs.length ≤ 1048576 ∧ 0 ≤ s.out ∧ s.out ≤ 1048576
theorem MRow.stsR {B : Nat} {W : World} {vs : Value} {m : List RSt} (h : MRow B W vs m) (hm : MBr m) (hl : m.length ≤ 1048576) : StsAt W.heap.size W vs m := by
  obtain ⟨xss, a1, a2, a3⟩ := h.ex
  refine ⟨⟨xss, a1.reads, a2, fun i s hi => ?_⟩, fun s hs => ?_, by omega⟩
  · obtain ⟨va, e1, e2⟩ := a3 i s hi
    have hs := hm s (List.mem_of_getElem? hi)
    exact ⟨va, e1, e2.reads, hs.1, by have := hs.2.1; omega⟩
  · have := hm s hs
    simp only [Fits64]
    omega
/-- The reference's GetUint on a reader of these bytes. -/
theorem getU (w W : World) (vb : Value) (xs : List Nat) (n : Nat) (e : Int) (most : Nat) (hrow : Cd.Row w.heap.size w vb xs) (hb : Below w.heap.size w W) (hn : n ≤ xs.length) (hx : ∀ x ∈ xs, x < 256) (hl : xs.length ≤ 140737488355328) :
    Calls Tryz.prog 23 #[Cd.rv vb n e, .int .u64 (most : Int)] W fun x w' => ∃ n' v : Nat, x = .returned (.tuple #[Cd.rv vb n' (rU (xs.drop n, e) most).2.2, .int .u64 (v : Int)]) ∧ v = (rU (xs.drop n, e) most).1 ∧ v ≤ most ∧ xs.drop n' = (rU (xs.drop n, e) most).2.1 ∧ n' ≤ xs.length ∧ Below W.heap.size W w' := by
  refine (Cd.refGetUint_any w.heap.size vb xs n e most W (hrow.below hb) hb.size hn hx hl).mono ?_
  rintro x w' ⟨n', rfl, h1, _, h3, h4⟩
  exact ⟨n', (rU (xs.drop n, e) most).1, rfl, rfl, rU_le (st := (xs.drop n, e)) (fun y hy => hx y (List.mem_of_mem_drop hy)), h1, h3, h4⟩
end Go.Proofs.YtllmdfkiogmofaaGreatDoor
