/- PackBuilt: the law's own walk. -/
import Derived.Test.YtdidcombjmbkdaaDoorPkAlive
namespace Go.Proofs.YtdidcombjmbkdaaDoor
open Go.RowKit Nums Fm Pk
set_option maxRecDepth 100000

/-- Behind Build: the machine in its box. -/
structure BB (w W : World) (l : List Pr) (mb : Nat) (base : Int) (vs : Value) (b : List St) : Prop where
  bel : Below w.heap.size w W
  row : StRow w.heap.size W vs b
  mac : W.heap[mb]? = some (.cells #[.int .i64 base, vs] 24)
  eq : machOf l = (base, b)
theorem BB.mk' {w w1 : World} {l : List Pr} {base : Int} {vs : Value} {b : List St} (h : BuildSays w w1 l base vs b) : BB w (w1.alloc (.cells #[.int .i64 base, vs] 24)) l w1.heap.size base vs b :=
  ⟨h.bel.alloc h.bel.size _, h.row.below ((Below.refl _ w1).alloc (Nat.le_refl _) _), alloc_newP _ _, h.mach⟩
theorem BB.below {w W W' : World} {l : List Pr} {mb : Nat} {base : Int} {vs : Value} {b : List St} (h : BB w W l mb base vs b) (hb : Below W.heap.size W W') : BB w W' l mb base vs b :=
  ⟨h.bel.trans (hb.mono h.bel.size), h.row.below hb, (hb.block mb (Array.getElem?_eq_some_iff.1 h.mac).1).trans h.mac, h.eq⟩
theorem BB.facts {w W : World} {l : List Pr} {mb : Nat} {base : Int} {vs : Value} {b : List St} (h : BB w W l mb base vs b) : W.cell? ⟨mb, 0, none⟩ = some (.int .i64 base) ∧ W.cell? ⟨mb, 1, none⟩ = some vs := ⟨by simp [World.cell?, h.mac], by simp [World.cell?, h.mac]⟩
/-- It is right. -/
theorem BB.right {w W : World} {l : List Pr} {mb : Nat} {base : Int} {vs : Value} {b : List St} (h : BB w W l mb base vs b) (hC : buildE l = 0) (ht : Tabs w) : Calls Tryd.prog 11 #[.agg #[.int .i64 base, vs]] W fun e w' => e = .returned (.bool true) ∧ Below W.heap.size W w' := by
  have hr := built_right hC
  have hf := mach_few (l := l)
  rw [h.eq] at hr hf
  have := Right_any W.heap.size W base (b.map ofSt) vs (built_at h.row hC (by rw [h.eq])) (Nat.le_refl _) (ht.below h.bel) (by rw [List.length_map]; simp only at hf; omega)
  rw [hr] at this
  exact this
set_option maxHeartbeats 2000000 in
theorem built_walk (v : Value) (w : World) (ht : Tabs w) (l : List Pr) (h : PRow w v l) (hs : Sm l) (hl : l.length ≤ 9223372036854775807) :
    Calls Tryd.prog 4 #[v] w fun e w' => e = .returned (.bool true) ∧ Below w.heap.size w w' := by
  have HBLD := Build_any w v l h hl hs ht
  obtain ⟨C, hC⟩ : ∃ C, buildE l = C := ⟨_, rfl⟩
  rw [hC] at HBLD
  have HT : Hid (Tabs w) := ht
  have HC : Hid (buildE l = C) := hC
  have HB0 : Hid (Calls Tryd.prog 13 #[v] w fun e w' => ∃ base vs b, e = .returned (.tuple #[.agg #[.int .i64 base, vs], .int .i64 C]) ∧ BuildSays w w' l base vs b) := HBLD
  clear h hs ht HBLD hC
  go_enter Tryd.func4, Tryd.ntmps4
  go_upto_region 2 with (go_at_call 13; refine HB0.out.mono ?_; rintro e w1 ⟨base, vs, b, rfl, hS⟩; obtain ⟨sd, nb, sc, hvs, hnb⟩ := StRow.form hS.row; subst hvs; have HS : Hid (BuildSays w w1 l base (.slice sd nb sc) b) := hS; clear hS)
  have HBB := BB.mk' HS.out
  obtain ⟨mb, hmb⟩ : ∃ mb, mb = w1.heap.size := ⟨_, rfl⟩
  obtain ⟨W2, hW2⟩ : ∃ W2, W2 = w1.alloc (.cells #[.int .i64 base, .slice sd nb sc] 24) := ⟨_, rfl⟩
  rw [← hmb, ← hW2] at HBB
  have HB2 : Hid (BB w W2 l mb base (.slice sd nb sc) b) := HBB
  rw [← hmb, ← hW2]
  clear hmb hW2 HBB HS
  by_cases hC0 : C = 0
  · subst hC0
    go_wp2_with (first
      | (go_at_call 10; refine (alive_any _ (HT.out.below HB2.out.bel)).mono ?_; rintro e w3 ⟨rfl, hb3⟩; have HB3 : Hid (BB w w3 l mb base (.slice sd nb sc) b) := HB2.out.below hb3; clear hb3; obtain ⟨q0, q1⟩ := HB3.out.facts)
      | (go_at_call 11; refine (HB3.out.right HC.out HT.out).mono ?_; rintro e w4 ⟨rfl, hb4⟩))
    go_ret
    exact ⟨rfl, HB3.out.bel.trans (hb4.mono HB3.out.bel.size)⟩
  · have hCb : (C == 0) = false := beq_eq_false_iff_ne.2 hC0
    have hCn : (C != 0) = true := by simp [bne, hCb]
    go_wp2_with (first
      | (go_at_call 10; refine (alive_any _ (HT.out.below HB2.out.bel)).mono ?_; rintro e w3 ⟨rfl, hb3⟩; have HB3 : Hid (BB w w3 l mb base (.slice sd nb sc) b) := HB2.out.below hb3; clear hb3))
    go_ret
    exact ⟨rfl, HB3.out.bel⟩
end Go.Proofs.YtdidcombjmbkdaaDoor
