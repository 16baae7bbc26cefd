/- Texts that were written apart, joined. -/
import Derived.Test.YtjhjejjnkpbphaaDoorG6
import Derived.Test.YtjhjejjnkpbphaaDoorGd
import Derived.Laws.StructEq
/- Machines that fst.Build made, as pack reads them; alive. -/
namespace Go.Proofs.YtjhjejjnkpbphaaDoor
open Go.RowKit Nums Fm Pk
set_option maxRecDepth 100000

theorem built_at {B : Nat} {w : World} {vs : Value} {l : List Pr} {b : List St} (h : StRow B w vs b) (hC : buildE l = 0) (hb : (machOf l).2 = b) : StsAt w.heap.size w vs (b.map ofSt) := by
  obtain ⟨xss, h1, h2, h3⟩ := h
  have hf := built_facts hC
  have hlen := mach_few (l := l)
  rw [hb] at hf hlen
  refine ⟨⟨xss, h1.reads, by rw [h2, List.length_map], fun i s hi => ?_⟩, fun s hs => ?_, by rw [List.length_map]; omega⟩
  · rw [List.getElem?_map] at hi
    obtain ⟨t, ht, rfl⟩ := Option.map_eq_some_iff.1 hi
    obtain ⟨va, e1, e2⟩ := h3 i t ht
    have hcell : (t.arcs.map ofArc).map cellsRA = t.arcs.map cellsA := by rw [List.map_map]; rfl
    refine ⟨va, e1, ⟨by rw [show (ofSt t).arcs = t.arcs.map ofArc from rfl, hcell]; exact GOwn.reads e2, fun a ha => ?_, ?_⟩⟩
    · obtain ⟨x, hx, rfl⟩ := List.mem_map.1 ha
      obtain ⟨p1, p2, p3⟩ := (hf i t ht).2 x hx
      have hi' := (List.getElem?_eq_some_iff.1 ht).1
      simp only [OkRA, ofArc, Fits32, Fits64]
      omega
    · have := GOwn.reads e2
      obtain ⟨ad, cap, e, _⟩ := GOwn.shape e2
      have hsm : (t.arcs.map cellsA).length ≤ maxLen := by
        obtain ⟨_, hl, ⟨_, h0⟩ | ⟨g, cap, cur, _, _, _, h3, h4, _⟩⟩ := e2
        · omega
        · omega
      rw [List.length_map] at hsm
      unfold maxLen at hsm
      show (t.arcs.map ofArc).length ≤ _
      rw [List.length_map]
      omega
  · obtain ⟨t, ht, rfl⟩ := List.mem_map.1 hs
    obtain ⟨i, hi, rfl⟩ := List.getElem_of_mem ht
    have := (hf i _ (List.getElem?_eq_getElem hi)).1
    simp only [ofSt, Fits64]
    omega
theorem StRow.form {B : Nat} {w : World} {vs : Value} {b : List St} (h : StRow B w vs b) : ∃ ad n cap, vs = .slice ad n cap ∧ b.length = n := by
  obtain ⟨xss, h1, h2, _⟩ := h
  obtain ⟨ad, cap, h3, _⟩ := h1.shape
  exact ⟨ad, _, cap, h3, h2.symm⟩
def al8 : List Pr := [(⟨#[97]⟩, 3)]
def alM8 : List St := [⟨true, 0, []⟩, ⟨false, 0, [⟨97, 0, 0⟩]⟩]
theorem al8_e : buildE al8 = 0 := by decide +kernel
theorem al8_m : machOf al8 = (3, alM8) := by decide +kernel
theorem al8_sm : Sm al8 := fun x hx => by simp [al8] at hx; subst hx; decide
theorem al8_r : rightB 3 (alM8.map ofSt) = true := by have := built_right al8_e; rw [al8_m] at this; exact this
theorem al8_b : packB 3 (alM8.map ofSt) = [3, 2, 1, 0, 2, 97, 0, 1] := by decide +kernel
theorem one_new (w : World) (x : Pr) (T : TypeId) (c : Nat) : PRow (w.alloc (.cells #[.string x.1, .int .i64 x.2] T)) (.slice (some ⟨w.heap.size, 0, none⟩) 1 c) [x] := by
  refine ⟨_, c, rfl, fun _ => ⟨w.heap.size, 0, rfl, by simp, fun i u hi => ?_⟩⟩
  match i, hi with
  | 0, hi => simp at hi; subst hi; exact ⟨by simp, by simp⟩
  | n + 1, hi => simp at hi
set_option maxHeartbeats 2000000 in
theorem alive_any (w : World) (ht : Tabs w) : Calls Tryd.prog 6 #[] w fun e w' => e = .returned (.bool true) ∧ Below w.heap.size w w' := by
  have hb0 : ∀ o, Below w.heap.size w (w.alloc o) := fun o => (Below.refl _ w).alloc (Nat.le_refl _) o
  have HT : Hid (∀ W, Below w.heap.size w W → Tabs W) := fun W hW => ht.below hW
  have HB : Hid (∀ o, Below w.heap.size w (w.alloc o)) := hb0
  have HBU : Hid (∀ T, Calls Tryd.prog 17 #[.slice (some ⟨w.heap.size, 0, none⟩) 1 1] (w.alloc (.cells #[.string ⟨#[97]⟩, .int .i64 3] T)) fun e w' => ∃ base vs b, e = .returned (.tuple #[.agg #[.int .i64 base, vs], .int .i64 0]) ∧ BuildSays (w.alloc (.cells #[.string ⟨#[97]⟩, .int .i64 3] T)) w' al8 base vs b) := fun T => by
    have := Build_any (w.alloc (.cells #[.string ⟨#[97]⟩, .int .i64 3] T)) _ al8 (one_new w (⟨#[97]⟩, 3) T 1) (by decide) al8_sm (ht.below (hb0 _))
    rw [al8_e] at this
    exact this
  clear ht hb0
  go_enter Tryd.func6, Tryd.ntmps6
  go_upto_region 2 with (go_at_call 17; refine (HBU.out _).mono ?_; rintro e w1 ⟨base, vs, b, rfl, hS⟩; obtain ⟨sd, nb, sc, hvs, hnb⟩ := StRow.form hS.row; subst hvs; have HS : Hid (BuildSays (w.alloc _) w1 al8 base (.slice sd nb sc) b) := hS; clear hS)
  obtain ⟨hbel, hrow, hmach⟩ := HS.out
  rw [al8_m] at hmach
  simp only [Prod.mk.injEq] at hmach
  obtain ⟨rfl, rfl⟩ := hmach
  have hsts := built_at hrow al8_e (by rw [al8_m])
  have hbw : Below w.heap.size w w1 := (HB.out _).trans (hbel.mono (HB.out _).size)
  obtain ⟨mb, hmb⟩ : ∃ mb, mb = w1.heap.size := ⟨_, rfl⟩
  obtain ⟨W2, hW2⟩ : ∃ W2, W2 = w1.alloc (.cells #[.int .i64 3, .slice sd nb sc] 24) := ⟨_, rfl⟩
  have hb2 : Below w1.heap.size w1 W2 := by rw [hW2]; exact (Below.refl _ w1).alloc (Nat.le_refl _) _
  have hm2 : W2.heap[mb]? = some (.cells #[.int .i64 3, .slice sd nb sc] 24) := by rw [hW2, hmb]; exact alloc_newP _ _
  have q0 : W2.cell? ⟨mb, 0, none⟩ = some (.int .i64 3) := by simp [World.cell?, hm2]
  have q1 : W2.cell? ⟨mb, 1, none⟩ = some (.slice sd nb sc) := by simp [World.cell?, hm2]
  have HB2 : Hid (Below w.heap.size w W2) := hbw.trans (hb2.mono hbw.size)
  have HPK : Hid (Calls Tryd.prog 7 #[.agg #[.int .i64 3, .slice sd nb sc]] W2 fun e w' => PackSays W2 w' 3 (alM8.map ofSt) e) := Pack_any w1.heap.size W2 3 _ _ (hsts.below hb2) hb2.size (HT.out _ HB2.out) (by decide)
  rw [← hmb, ← hW2]
  clear hmb hW2 hb2 hm2 hsts hbw hbel hrow
  go_upto_region 3 with (go_at_call 7; refine HPK.out.mono ?_; rintro e w3 hps; obtain ⟨d3, n3, c3, rfl, hby⟩ := hps.yes al8_r; have HB3 : Hid (Below W2.heap.size W2 w3) := hps.bel; rw [al8_b] at hby; have HBY : Hid (Cd.Bytes W2.heap.size w3 (.slice d3 n3 c3) [3, 2, 1, 0, 2, 97, 0, 1]) := hby; clear hps hby)
  have hstr := (HBY.out.row).str
  have HF : Hid (Below w.heap.size w w3) := HB2.out.trans (HB3.out.mono HB2.out.size)
  have hs8 : Cd.strB [3, 2, 1, 0, 2, 97, 0, 1] = ⟨#[3, 2, 1, 0, 2, 97, 0, 1]⟩ := by rfl
  rw [hs8] at hstr
  clear hs8
  go_wp2
  go_ret
  exact ⟨rfl, HF.out⟩
end Go.Proofs.YtjhjejjnkpbphaaDoor

/- Cut: what the seat's translation lacks is left out. -/
/- PackBuilt: the law's own walk. -/
namespace Go.Proofs.YtjhjejjnkpbphaaDoor
open Go.RowKit Nums Fm Pk
set_option maxRecDepth 100000

/-- Behind Build: the machine in its box. -/
structure BB (w W : World) (l : List Pr) (mb : Nat) (base : Int) (vs : Value) (b : List St) : Prop where
  bel : Below w.heap.size w W
  row : StRow w.heap.size W vs b
  mac : W.heap[mb]? = some (.cells #[.int .i64 base, vs] 24)
  eq : machOf l = (base, b)
theorem BB.mk' {w w1 : World} {l : List Pr} {base : Int} {vs : Value} {b : List St} (h : BuildSays w w1 l base vs b) : BB w (w1.alloc (.cells #[.int .i64 base, vs] 24)) l w1.heap.size base vs b :=
  ⟨h.bel.alloc h.bel.size _, h.row.below ((Below.refl _ w1).alloc (Nat.le_refl _) _), alloc_newP _ _, h.mach⟩
theorem BB.below {w W W' : World} {l : List Pr} {mb : Nat} {base : Int} {vs : Value} {b : List St} (h : BB w W l mb base vs b) (hb : Below W.heap.size W W') : BB w W' l mb base vs b :=
  ⟨h.bel.trans (hb.mono h.bel.size), h.row.below hb, (hb.block mb (Array.getElem?_eq_some_iff.1 h.mac).1).trans h.mac, h.eq⟩
theorem BB.facts {w W : World} {l : List Pr} {mb : Nat} {base : Int} {vs : Value} {b : List St} (h : BB w W l mb base vs b) : W.cell? ⟨mb, 0, none⟩ = some (.int .i64 base) ∧ W.cell? ⟨mb, 1, none⟩ = some vs := ⟨by simp [World.cell?, h.mac], by simp [World.cell?, h.mac]⟩
/-- It is right. -/
theorem BB.right {w W : World} {l : List Pr} {mb : Nat} {base : Int} {vs : Value} {b : List St} (h : BB w W l mb base vs b) (hC : buildE l = 0) (ht : Tabs w) : Calls Tryd.prog 20 #[.agg #[.int .i64 base, vs]] W fun e w' => e = .returned (.bool true) ∧ Below W.heap.size W w' := by
  have hr := built_right hC
  have hf := mach_few (l := l)
  rw [h.eq] at hr hf
  have := Right_any W.heap.size W base (b.map ofSt) vs (built_at h.row hC (by rw [h.eq])) (Nat.le_refl _) (ht.below h.bel) (by rw [List.length_map]; simp only at hf; omega)
  rw [hr] at this
  exact this
end Go.Proofs.YtjhjejjnkpbphaaDoor
