/- PackAgain: the law's own walk. -/
import Derived.Test.YtdidcombjmbkdaaDoorBackW
namespace Go.Proofs.YtdidcombjmbkdaaDoor
open Go.RowKit Nums Fm Pk
set_option maxRecDepth 100000

/-- Behind Unpack: the machine in its box. -/
structure RB (w W : World) (xs : List Nat) (mb : Nat) (base : Nat) (vs : Value) : Prop where
  bel : Below w.heap.size w W
  row : ∃ B, MRow B W vs (rdAll xs).2.1
  mac : W.heap[mb]? = some (.cells #[.int .i64 (base : Int), vs] 24)
  mb' : MB (rdAll xs).2.1
  eq : (rdAll xs).1 = base
theorem RB.facts {w W : World} {xs : List Nat} {mb base : Nat} {vs : Value} (h : RB w W xs mb base vs) : W.cell? ⟨mb, 0, none⟩ = some (.int .i64 (base : Int)) ∧ W.cell? ⟨mb, 1, none⟩ = some vs := ⟨by simp [World.cell?, h.mac], by simp [World.cell?, h.mac]⟩
theorem RB.pack {w W : World} {xs : List Nat} {mb base : Nat} {vs : Value} (h : RB w W xs mb base vs) (hx : ∀ x ∈ xs, x < 256) (hg : goodB xs = true) (ht : Tabs w) : Calls Tryd.prog 14 #[.agg #[.int .i64 (base : Int), vs]] W fun e w' => ∃ ad n cap, e = .returned (.tuple #[.slice ad n cap, .int .i64 0]) ∧ Below w.heap.size w w' ∧ Cd.Bytes W.heap.size w' (.slice ad n cap) xs := by
  obtain ⟨g1, g2, g3⟩ := good_facts hx hg
  obtain ⟨B, hrow⟩ := h.row
  rw [h.eq] at g1 g2
  refine (Pack_any W.heap.size W (base : Int) _ vs (hrow.sts h.mb' (by omega)) (Nat.le_refl _) (ht.below h.bel) (by omega)).mono ?_
  intro e w' hs
  obtain ⟨ad, n, cap, e1, e2⟩ := hs.yes g2
  rw [g1] at e2
  exact ⟨ad, n, cap, e1, h.bel.trans (hs.bel.mono h.bel.size), e2⟩
set_option maxHeartbeats 4000000 in
theorem again_walk (v : Value) (w : World) (ht : Tabs w) (xs : List Nat) (hrow : Cd.Row w.heap.size w v xs) (hlen : xs.length ≤ 140737488351232) (hx : ∀ x ∈ xs, x < 256) :
    Calls Tryd.prog 7 #[v] w fun e w' => e = .returned (.bool true) ∧ Below w.heap.size w w' := by
  have HU : Hid (Calls Tryd.prog 16 #[v] w fun e w' => UnpackSays w w' xs e) := Unpack_any w.heap.size v xs w hrow (Nat.le_refl _) hx (by omega) ht
  have HR : Hid (Cd.Row w.heap.size w v xs) := hrow
  have HX : Hid (∀ x ∈ xs, x < 256) := hx
  have HT : Hid (Tabs w) := ht
  clear hrow hx ht
  cases hg : goodB xs
  · have HU0 : Hid (Calls Tryd.prog 16 #[v] w fun e w' => e = .returned (.tuple #[.agg #[.int .i64 0, .slice none 0 0], .int .i64 80]) ∧ Below w.heap.size w w') := HU.out.mono fun e w' hs => ⟨hs.no hg, hs.bel⟩
    clear hg HU
    go_enter Tryd.func7, Tryd.ntmps7
    go_upto_region 2 with (go_at_call 16; refine HU0.out.mono ?_; rintro e w1 ⟨rfl, hb1⟩; have HB1 : Hid (Below w.heap.size w w1) := hb1; clear hb1)
    obtain ⟨W2, hW2⟩ : ∃ W2, W2 = w1.alloc (.cells #[.int .i64 0, .slice none 0 0] 24) := ⟨_, rfl⟩
    have HB2 : Hid (Below w.heap.size w W2) := by show Below _ _ _; rw [hW2]; exact HB1.out.alloc HB1.out.size _
    rw [← hW2]
    clear hW2
    go_wp2_with (first
      | (go_at_call 10; refine (alive_any _ (HT.out.below HB2.out)).mono ?_; rintro e w3 ⟨rfl, hb3⟩; have HB3 : Hid (Below w.heap.size w w3) := HB2.out.trans (hb3.mono HB2.out.size); clear hb3))
    go_ret
    exact ⟨rfl, HB3.out⟩
  · have HG : Hid (goodB xs = true) := hg
    obtain ⟨bs, hbs⟩ : ∃ bs, (rdAll xs).1 = bs := ⟨_, rfl⟩
    have HU1 : Hid (Calls Tryd.prog 16 #[v] w fun e w' => ∃ ad n cap, e = .returned (.tuple #[.agg #[.int .i64 (bs : Int), .slice ad n cap], .int .i64 0]) ∧ Below w.heap.size w w' ∧ MRow w.heap.size w' (.slice ad n cap) (rdAll xs).2.1 ∧ MB (rdAll xs).2.1) := HU.out.mono fun e w' hs => by
      obtain ⟨vs, e1, e2⟩ := hs.yes hg
      obtain ⟨ad, cap, rfl⟩ := e2.shape
      rw [hbs] at e1
      exact ⟨ad, _, cap, e1, hs.bel, e2, hs.mb⟩
    have HBS : Hid ((rdAll xs).1 = bs) := hbs
    clear hg HU hbs
    go_enter Tryd.func7, Tryd.ntmps7
    go_upto_region 2 with (go_at_call 16; refine HU1.out.mono ?_; rintro e w1 ⟨sd, n, sc, rfl, hb1, hr1, hm1⟩; have HB1 : Hid (Below w.heap.size w w1) := hb1; have HR1 : Hid (MRow w.heap.size w1 (.slice sd n sc) (rdAll xs).2.1 ∧ MB (rdAll xs).2.1) := ⟨hr1, hm1⟩; clear hb1 hr1 hm1)
    obtain ⟨W2, hW2⟩ : ∃ W2, W2 = w1.alloc (.cells #[.int .i64 (bs : Int), .slice sd n sc] 24) := ⟨_, rfl⟩
    obtain ⟨mb, hmb⟩ : ∃ mb, mb = w1.heap.size := ⟨_, rfl⟩
    have HB2 : Hid (RB w W2 xs mb bs (.slice sd n sc)) := by
      show RB _ _ _ _ _ _
      rw [hW2, hmb]
      exact ⟨HB1.out.alloc HB1.out.size _, ⟨_, HR1.out.1.below ((Below.refl _ w1).alloc (Nat.le_refl _) _)⟩, alloc_newP _ _, HR1.out.2, HBS.out⟩
    rw [← hW2, ← hmb]
    clear hW2 hmb
    obtain ⟨q0, q1⟩ := HB2.out.facts
    go_upto_region 5 with (go_at_call 14; refine (HB2.out.pack HX.out HG.out HT.out).mono ?_; rintro e w3 ⟨ad, m, cap, rfl, hb3, hy3⟩; have HB3 : Hid (Below w.heap.size w w3) := hb3; have HY3 : Hid (Cd.Bytes W2.heap.size w3 (.slice ad m cap) xs) := hy3; clear hb3 hy3 q0 q1)
    go_wp2_with (first
      | (go_at_call 10; refine (alive_any _ (HT.out.below HB3.out)).mono ?_; rintro e w4 ⟨rfl, hb4⟩; have HB4 : Hid (Below w.heap.size w w4) := HB3.out.trans (hb4.mono HB3.out.size); have hc1 := (HY3.out.below hb4).row.str; have hc2 := (HR.out.below HB4.out).str; clear hb4))
    go_ret
    exact ⟨by first | rfl | simp, HB4.out⟩
end Go.Proofs.YtdidcombjmbkdaaDoor
