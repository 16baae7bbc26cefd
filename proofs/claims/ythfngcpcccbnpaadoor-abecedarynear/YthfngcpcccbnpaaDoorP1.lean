/- Texts that were written apart, joined. -/
import Derived.Test.YthfngcpcccbnpaaDoorE2
import Derived.Test.YthfngcpcccbnpaaDoorP0
/- edit.table: all rows of distances. -/
namespace Go.Proofs.YthfngcpcccbnpaaDoor
open Go.RowKit Nums Ed
set_option maxRecDepth 100000

/-- The rows of which those up to k are full. -/
def rowsT (g W n k : Nat) : List Value := (List.range n).map fun i => .slice (some ⟨g, i * W, none⟩) (if i < k then W else 0) W
theorem rowsT_len (g W n k : Nat) : (rowsT g W n k).length = n := by simp [rowsT]
theorem rowsT_get (g W n k : Nat) {i : Nat} (h : i < n) : (rowsT g W n k)[i]? = some (.slice (some ⟨g, i * W, none⟩) (if i < k then W else 0) W) := by
  unfold rowsT
  rw [List.getElem?_map, List.getElem?_range h]
  rfl
theorem rowsT_set (g W n k : Nat) : (rowsT g W n k).set k (.slice (some ⟨g, k * W, none⟩) W W) = rowsT g W n (k + 1) := by
  apply List.ext_getElem?
  intro i
  rw [List.getElem?_set]
  by_cases hi : i < n
  · rw [rowsT_get _ _ _ _ hi, rowsT_get _ _ _ _ hi, rowsT_len]
    by_cases e : k = i
    · subst e; rw [if_pos rfl, if_pos hi, if_pos (by omega)]
    · rw [if_neg e]
      by_cases c : i < k
      · rw [if_pos c, if_pos (by omega)]
      · rw [if_neg c, if_neg (by omega)]
  · rw [List.getElem?_eq_none (by rw [rowsT_len]; omega), List.getElem?_eq_none (by rw [rowsT_len]; omega), rowsT_len]
    split
    · rw [if_neg (by omega)]
    · rfl
theorem rowsT_zero (g W n : Nat) : rowsV g W n n = rowsT g W n 0 := by
  apply List.ext_getElem?
  intro i
  by_cases hi : i < n
  · rw [rowsV_get _ _ _ _ hi, rowsT_get _ _ _ _ hi, if_pos hi, if_neg (by omega)]
  · rw [List.getElem?_eq_none (by rw [rowsV_len]; omega), List.getElem?_eq_none (by rw [rowsT_len]; omega)]
/-- The table lies in memory. -/
structure TabAt (w : World) (gl g : Nat) (xs ys : List Int) : Prop where
  row : ∀ i, i ≤ xs.length → w.cell? ⟨gl, i, none⟩ = some (.slice (some ⟨g, i * (ys.length + 1), none⟩) (ys.length + 1) (ys.length + 1))
  num : ∀ i j, i ≤ xs.length → j ≤ ys.length → w.cell? ⟨g, i * (ys.length + 1) + j, none⟩ = some (.int .i64 (lv (xs.take i) (ys.take j) : Int))
theorem TabAt.lt {w : World} {gl g : Nat} {xs ys : List Int} (h : TabAt w gl g xs ys) : gl < w.heap.size ∧ g < w.heap.size :=
  ⟨lt_of_cell (h.row 0 (Nat.zero_le _)), lt_of_cell (h.num 0 0 (Nat.zero_le _) (Nat.zero_le _))⟩
theorem TabAt.below {w w' : World} {gl g : Nat} {xs ys : List Int} (h : TabAt w gl g xs ys) {B : Nat} (hg : gl < B ∧ g < B) (hb : Below B w w') : TabAt w' gl g xs ys :=
  ⟨fun i hi => (hb.cell (p := ⟨gl, i, none⟩) hg.1).trans (h.row i hi), fun i j hi hj => (hb.cell (p := ⟨g, _, none⟩) hg.2).trans (h.num i j hi hj)⟩

set_option maxHeartbeats 1000000 in
theorem table_any (vx vy : Value) (xs ys : List Int) (w : World) (hx : RunesAt w.heap.size w vx xs) (hy : RunesAt w.heap.size w vy ys) (hxl : xs.length ≤ 2000) (hyl : ys.length ≤ 2000) :
    Calls Tryd.prog 65 #[vx, vy] w fun e w' => ∃ g gl, e = .returned (.slice (some ⟨gl, 0, none⟩) (xs.length + 1) (xs.length + 1)) ∧ TabAt w' gl g xs ys ∧ Below w.heap.size w w' := by
  obtain ⟨adx, capx, rfl⟩ := hx.form
  obtain ⟨ady, capy, rfl⟩ := hy.form
  have HX : Hid (RunesAt w.heap.size w (.slice adx xs.length capx) xs) := hx
  have HY : Hid (RunesAt w.heap.size w (.slice ady ys.length capy) ys) := hy
  clear hx hy
  obtain ⟨W, hW⟩ : ∃ W, W = ys.length + 1 := ⟨_, rfl⟩
  obtain ⟨N, hN⟩ : ∃ N, N = xs.length + 1 := ⟨_, rfl⟩
  have hwW : IntKind.i64.wrap ((ys.length : Int) + 1) = (W : Int) := by rw [IntKind.wrap_i64]; omega
  have hwN : IntKind.i64.wrap ((xs.length : Int) + 1) = (N : Int) := by rw [IntKind.wrap_i64]; omega
  have HW : Hid (W = ys.length + 1) := hW
  have HN : Hid (N = xs.length + 1) := hN
  have hW1 : 1 ≤ W := by omega
  have hN1 : 1 ≤ N := by omega
  have hW2 : W ≤ 2001 := by omega
  have hN2 : N ≤ 2001 := by omega
  rw [← hN]
  clear hW hN
  go_enter Tryd.func65, Tryd.ntmps65
  go_upto_region 2 with (go_at_call 36; refine (rows_any N W _ hN1 hW1 (by omega) (by omega)).mono ?_; rintro e w2 ⟨g, gl, rfl, hL, hI, hb2, hg1, hg2, hgne⟩)
  have hWN : Hid (W ≤ N * W) := by
    have := Nat.mul_le_mul_right W hN1
    unfold Hid; omega
  have hL0 : w2.cell? ⟨gl, 0, none⟩ = some (.slice (some ⟨g, 0, none⟩) 0 W) := hL.cell (by rw [rowsV_get _ _ _ _ (by omega)]; simp; omega)
  have HST := start_any w2 g 0 W _ ys hI (by have := HW.out; omega) (by simp; have := HW.out; have := hWN.out; omega) (by omega)
  have HL : Hid (LBlk w2 gl (rowsV g W N N)) := hL
  clear hL hI
  go_upto_region 3 with (go_at_call 37; refine HST.mono ?_; rintro e w3 ⟨rfl, hI3, hb3⟩; have hc3 : w3.cell? ⟨gl, 0, none⟩ = some (.slice (some ⟨g, 0, none⟩) 0 W) := (HL.out.but hb3 hgne).cell (by rw [rowsV_get _ _ _ _ (by omega)]; simp; omega); have hf3 : w3.frozen? ⟨gl, 0, none⟩ = false := (HL.out.but hb3 hgne).frozen 0)
  have hlen0 : Hid (0 + (dr [] ys).length ≤ (List.replicate (N * W) (0 : Int)).length) := by unfold Hid; rw [dr_len, List.length_replicate]; have := HW.out; have := hWN.out; omega
  have hg3 : g < w3.heap.size := hI3.lt
  obtain ⟨W4, hW4⟩ : ∃ W4, W4 = w3.setCell ⟨gl, 0, none⟩ (.slice (some ⟨g, 0, none⟩) (ys.length + 1) W) := ⟨_, rfl⟩
  rw [← hW4]
  have hL4 : LBlk W4 gl (rowsT g W N 1) := by
    have := (HL.out.but hb3 hgne).set 0 (.slice (some ⟨g, 0 * W, none⟩) W W)
    rw [rowsT_zero, rowsT_set, Nat.zero_mul, show (.slice (some ⟨g, 0, none⟩) W W : Value) = .slice (some ⟨g, 0, none⟩) (ys.length + 1) W by rw [← HW.out]] at this
    rw [hW4]
    exact this
  have hI4 : IBlk W4 g (lay (List.replicate (N * W) 0) 0 (dr [] ys)) := by rw [hW4]; exact hI3.same (Below.heap_setCell _ _ _ _ (fun e => hgne e.symm))
  have hb4 : Below w.heap.size w W4 := by
    rw [hW4]
    exact (hb2.trans (hb3.below hg1 hb2.size)).setCell hg2 _
  clear hW4 hc3 hf3 hI3 hb3 HL HST hL0 hb2
  have HI4 : Hid (IBlk W4 g (lay (List.replicate (N * W) 0) 0 (dr [] ys))) := hI4
  clear hI4
  go_wp2
  go_loopw [25] (fun i wr => ∃ (k : Nat) (cs : List Int), k ≤ xs.length ∧ i = .int .i64 k ∧ LBlk wr gl (rowsT g W N (k + 1)) ∧ IBlk wr g cs ∧ cs.length = N * W ∧ (∀ i j, i ≤ k → j ≤ ys.length → cs[i * W + j]? = some (lv (xs.take i) (ys.take j) : Int)) ∧ Below w.heap.size w wr) (fun i _ => xs.length - (intOf i).toNat)
  case atStart =>
    refine ⟨0, _, Nat.zero_le _, rfl, hL4, HI4.out, by rw [lay_len hlen0.out, List.length_replicate], fun i j hi hj => ?_, hb4⟩
    obtain rfl : i = 0 := by omega
    have := lay_in (i := j) hlen0.out (by rw [dr_len]; omega)
    rw [Nat.zero_mul, this, dr_get _ _ hj, List.take_zero]
  case round =>
    obtain ⟨k, cs, hk, rfl, hL, hI, hcl, hT, hbel⟩ := hrel
    have HT : Hid (∀ i j, i ≤ k → j ≤ ys.length → cs[i * W + j]? = some (lv (xs.take i) (ys.take j) : Int)) := hT
    have HI : Hid (IBlk wr g cs) := hI
    have HL : Hid (LBlk wr gl (rowsT g W N (k + 1))) := hL
    have HC : Hid (cs.length = N * W) := hcl
    clear hT hI hL hcl
    by_cases hlt : k < xs.length
    · obtain ⟨r, hr⟩ : ∃ r, xs[k]? = some r := ⟨_, List.getElem?_eq_getElem hlt⟩
      obtain ⟨gx, offx, rfl, hgx, hcx⟩ := (HX.out.below hbel).at hr
      have HTK : Hid (xs.take (k + 1) = xs.take k ++ [r]) := by unfold Hid; rw [List.take_add_one, hr]; rfl
      clear hr
      obtain ⟨m0, hm0⟩ : ∃ m0, m0 = k * W := ⟨_, rfl⟩
      obtain ⟨m1, hm1⟩ : ∃ m1, m1 = (k + 1) * W := ⟨_, rfl⟩
      have HM0 : Hid (m0 = k * W) := hm0
      have HM1 : Hid (m1 = (k + 1) * W) := hm1
      have hm01 : m1 = m0 + W := by rw [hm1, hm0, Nat.add_mul]; omega
      have hmN : m1 + W ≤ N * W := by
        have := Nat.mul_le_mul_right W (show k + 2 ≤ N by have := HN.out; omega)
        rw [hm1]
        rw [Nat.add_mul] at this ⊢
        omega
      have HMN : Hid (m1 + W ≤ N * W) := hmN
      have HM01 : Hid (m1 = m0 + W) := hm01
      obtain ⟨q, hq⟩ : ∃ q, q = k + 1 := ⟨_, rfl⟩
      have HQ : Hid (q = k + 1) := hq
      have hcA : wr.drew.cell? ⟨gl, k, none⟩ = some (.slice (some ⟨g, m0, none⟩) W W) := HL.out.cell (by rw [rowsT_get _ _ _ _ (by have := HN.out; omega), if_pos (by omega), ← HM0.out])
      have hcB : wr.drew.cell? ⟨gl, q, none⟩ = some (.slice (some ⟨g, m1, none⟩) 0 W) := HL.out.cell (by rw [hq, rowsT_get _ _ _ _ (by have := HN.out; omega), if_neg (by omega), ← HM1.out])
      have hwq : IntKind.i64.wrap ((k : Int) + 1) = (q : Int) := by rw [IntKind.wrap_i64]; omega
      have hqN : (q : Int) < (N : Int) := by have := HN.out; omega
      have hkN : (k : Int) < (N : Int) := by have := HN.out; omega
      have HNXT := next_any wr.drew g m1 m0 W W cs (xs.take k) ys r (.slice ady ys.length capy) w.heap.size HI.out (by have := HW.out; omega) (by rw [HC.out]; have := HW.out; have := HMN.out; omega) (fun j hj => by rw [HM0.out]; exact HT.out k j (Nat.le_refl _) hj) (by have := HW.out; omega) (show RunesAt w.heap.size wr.drew _ ys from HY.out.below hbel.drew) hg1 (by omega) (by rw [List.length_take]; omega)
      rw [← HW.out] at HNXT
      have hlen1 : Hid (m1 + (dr (xs.take k ++ [r]) ys).length ≤ cs.length) := by unfold Hid; rw [dr_len, HC.out]; have := HW.out; have := HMN.out; omega
      have hS0 : wr.drew.cell? ⟨gl, k, none⟩ = some (.slice (some ⟨g, m0, none⟩) W W) ∧ wr.drew.cell? ⟨gl, q, none⟩ = some (.slice (some ⟨g, m1, none⟩) 0 W) := ⟨hcA, hcB⟩
      have hgll : gl < wr.drew.heap.size := HL.out.lt
      clear hm0 hm1 hm01 hmN hq hcA hcB
      go_upto_region 6 with (fail)
      refine region_atE (S := fun W' => W'.cell? ⟨gl, k, none⟩ = some (.slice (some ⟨g, m0, none⟩) W W) ∧ W'.cell? ⟨gl, q, none⟩ = some (.slice (some ⟨g, m1, none⟩) 0 W)) 17 16 rfl mixedP ?_
      refine take_atE (i := 0) 30 rfl rfl (by kernel_rfl) (by kernel_rfl) (by kernel_rfl) (by kernel_rfl) (fun _ _ _ h => h) (by rfl) (fun w hSw => by (have hSw2 := id hSw; clear hSw; go_simp; first | done | exact rfl)) (by assumption) ?_
      simp only [List.setIfInBounds_toArray, List.set_cons_zero, List.set_cons_succ]
      refine take_atE (i := 1) 31 rfl rfl (by kernel_rfl) (by kernel_rfl) (by kernel_rfl) (by kernel_rfl) (fun _ _ _ h => h) (by rfl) (fun w hSw => by (have hSw2 := id hSw; clear hSw; go_simp; first | done | exact rfl)) (by assumption) ?_
      simp only [List.setIfInBounds_toArray, List.set_cons_zero, List.set_cons_succ]
      refine take_atE (i := 2) 32 rfl rfl (by kernel_rfl) (by kernel_rfl) (by kernel_rfl) (by kernel_rfl) (fun _ _ _ h => h) (by rfl) (fun w hSw => by (have hSw2 := id hSw; clear hSw; go_simp; first | done | exact rfl)) (by assumption) ?_
      simp only [List.setIfInBounds_toArray, List.set_cons_zero, List.set_cons_succ]
      refine take_atE (i := 3) 33 rfl rfl (by kernel_rfl) (by kernel_rfl) (by kernel_rfl) (by kernel_rfl) (fun _ _ _ h => h) (by rfl) (fun w hSw => by (have hSw2 := id hSw; clear hSw; go_simp; first | done | exact rfl)) (by assumption) ?_
      simp only [List.setIfInBounds_toArray, List.set_cons_zero, List.set_cons_succ]
      refine take_atE (i := 4) 34 rfl rfl (by kernel_rfl) (by kernel_rfl) (by kernel_rfl) (by kernel_rfl) (fun _ _ _ h => h) (by rfl) (fun w hSw => by (have hSw2 := id hSw; clear hSw; go_simp; first | done | exact rfl)) (by assumption) ?_
      simp only [List.setIfInBounds_toArray, List.set_cons_zero, List.set_cons_succ]
      refine take_atE (i := 5) 35 rfl rfl (by kernel_rfl) (by kernel_rfl) (by kernel_rfl) (by kernel_rfl) (fun _ _ _ h => h) (by rfl) (fun w hSw => by (have hSw2 := id hSw; clear hSw; go_simp; first | done | exact rfl)) (by assumption) ?_
      simp only [List.setIfInBounds_toArray, List.set_cons_zero, List.set_cons_succ]
      refine take_atE (i := 6) 36 rfl rfl (by kernel_rfl) (by kernel_rfl) (by kernel_rfl) (by kernel_rfl) (fun _ _ _ h => h) (by rfl) (fun w hSw => by (have hSw2 := id hSw; clear hSw; go_simp; first | done | exact rfl)) (by assumption) ?_
      simp only [List.setIfInBounds_toArray, List.set_cons_zero, List.set_cons_succ]
      refine take_atE (i := 7) 37 rfl rfl (by kernel_rfl) (by kernel_rfl) (by kernel_rfl) (by kernel_rfl) (fun _ _ _ h => h) (by rfl) (fun w hSw => by (have hSw2 := id hSw; clear hSw; go_simp; first | done | exact rfl)) (by assumption) ?_
      simp only [List.setIfInBounds_toArray, List.set_cons_zero, List.set_cons_succ]
      refine take_atE (i := 8) 38 rfl rfl (by kernel_rfl) (by kernel_rfl) (by kernel_rfl) (by kernel_rfl) (fun _ _ _ h => h) (by rfl) (fun w hSw => by (have hSw2 := id hSw; clear hSw; go_simp; first | done | exact rfl)) (by assumption) ?_
      simp only [List.setIfInBounds_toArray, List.set_cons_zero, List.set_cons_succ]
      refine take_atE (i := 9) 39 rfl rfl (by kernel_rfl) (by kernel_rfl) (by kernel_rfl) (by kernel_rfl) (fun _ _ _ h => h) (by rfl) (fun w hSw => by (have hSw2 := id hSw; clear hSw; go_simp; first | done | exact rfl)) (by assumption) ?_
      simp only [List.setIfInBounds_toArray, List.set_cons_zero, List.set_cons_succ]
      refine take_atE (i := 10) 40 rfl rfl (by kernel_rfl) (by kernel_rfl) (by kernel_rfl) (by kernel_rfl) (fun _ _ _ h => h) (by rfl) (fun w hSw => by (have hSw2 := id hSw; clear hSw; go_simp; first | done | exact rfl)) (by assumption) ?_
      simp only [List.setIfInBounds_toArray, List.set_cons_zero, List.set_cons_succ]
      refine take_atE (i := 11) 41 rfl rfl (by kernel_rfl) (by kernel_rfl) (by kernel_rfl) (by kernel_rfl) (fun _ _ _ h => h) (by rfl) (fun w hSw => by (have hSw2 := id hSw; clear hSw; go_simp; first | done | exact rfl)) (by assumption) ?_
      simp only [List.setIfInBounds_toArray, List.set_cons_zero, List.set_cons_succ]
      refine take_atE (i := 12) 42 rfl rfl (by kernel_rfl) (by kernel_rfl) (by kernel_rfl) (by kernel_rfl) (fun _ _ _ h => h) (by rfl) (fun w hSw => by (have hSw2 := id hSw; clear hSw; go_simp; first | done | exact rfl)) (by assumption) ?_
      simp only [List.setIfInBounds_toArray, List.set_cons_zero, List.set_cons_succ]
      refine take_atE (i := 13) 43 rfl rfl (by kernel_rfl) (by kernel_rfl) (by kernel_rfl) (by kernel_rfl) (fun _ _ _ h => h) (by rfl) (fun w hSw => by (have hSw2 := id hSw; clear hSw; go_simp; first | done | exact rfl)) (by assumption) ?_
      simp only [List.setIfInBounds_toArray, List.set_cons_zero, List.set_cons_succ]
      refine one_callE (i := 14) (w0 := wr.drew) 44 38 #[.slice (some ⟨g, m1, none⟩) 0 W, .slice (some ⟨g, m0, none⟩) W W, .int .i32 r, .slice ady ys.length capy] (by kernel_rfl) rfl rfl (by rfl) (by kernel_rfl) ?_
      refine HNXT.mono ?_
      rintro e w5 ⟨rfl, hI5, hb5⟩
      have hL5 : LBlk w5 gl (rowsT g W N (k + 1)) := LBlk.but (w := wr.drew) HL.out hb5 hgne
      have hS5 : w5.cell? ⟨gl, k, none⟩ = some (.slice (some ⟨g, m0, none⟩) W W) ∧ w5.cell? ⟨gl, q, none⟩ = some (.slice (some ⟨g, m1, none⟩) 0 W) := by
        have e := hb5.block gl hgll hgne
        exact ⟨(World.cell?_of_block (a := ⟨gl, k, none⟩) e).trans hS0.1, (World.cell?_of_block (a := ⟨gl, q, none⟩) e).trans hS0.2⟩
      refine ⟨_, rfl, hS5, ?_⟩
      simp only [List.setIfInBounds_toArray, List.set_cons_zero, List.set_cons_succ]
      refine one_valueE (i := 15) (v := .pointer (some ⟨gl, q, none⟩)) (w' := w5) 45 (by kernel_rfl) rfl rfl (by rfl) (by go_simp; first | done | exact rfl) hS5 ?_
      simp only [List.setIfInBounds_toArray, List.set_cons_zero, List.set_cons_succ]
      have hcq := hS5.2
      have hfq : w5.frozen? ⟨gl, q, none⟩ = false := hL5.frozen q
      refine last_skipE (w' := w5.setCell ⟨gl, q, none⟩ (.slice (some ⟨g, m1, none⟩) W W)) (by kernel_rfl) rfl rfl (by rfl) (by go_simp; first | done | exact rfl) (by kernel_rfl) ?_
      have HL6 : Hid (LBlk (w5.setCell ⟨gl, q, none⟩ (.slice (some ⟨g, m1, none⟩) W W)) gl (rowsT g W N (k + 1 + 1))) := by
        have := hL5.set (k + 1) (.slice (some ⟨g, (k + 1) * W, none⟩) W W)
        rw [rowsT_set, ← HM1.out, ← HQ.out] at this
        rw [HQ.out] at this ⊢
        exact this
      have HI6 : Hid (IBlk (w5.setCell ⟨gl, q, none⟩ (.slice (some ⟨g, m1, none⟩) W W)) g (lay cs m1 (dr (xs.take k ++ [r]) ys))) := hI5.same (Below.heap_setCell _ _ _ _ (fun e => hgne e.symm))
      have HB6 : Hid (Below w.heap.size w (w5.setCell ⟨gl, q, none⟩ (.slice (some ⟨g, m1, none⟩) W W))) := (hbel.drew.trans (hb5.below hg1 hbel.size)).setCell hg2 _
      clear hI5 hL5 hS5 hS0 HNXT hcq hfq hb5
      go_wp2
      go_roundw
      case rel =>
        refine ⟨k + 1, _, by omega, by rw [HQ.out], HL6.out, HI6.out, by rw [lay_len hlen1.out]; exact HC.out, fun i j hi hj => ?_, HB6.out⟩
        by_cases hik : i ≤ k
        · have h1 := Nat.mul_le_mul_right W hik
          rw [lay_out hlen1.out (.inl (by have := HM01.out; have := HM0.out; have := HW.out; omega))]
          exact HT.out i j hik hj
        · obtain rfl : i = k + 1 := by omega
          rw [← HM1.out, lay_in hlen1.out (by rw [dr_len]; omega), dr_get _ _ hj, HTK.out]
      case measure => simp [intOf]; have := HQ.out; omega
    · obtain rfl : k = xs.length := by omega
      go_wp2
      go_ret
      refine ⟨g, gl, rfl, ⟨fun i hi => ?_, fun i j hi hj => ?_⟩, hbel⟩
      · rw [← HW.out]
        exact HL.out.cell (by rw [rowsT_get _ _ _ _ (by have := HN.out; omega), if_pos (by omega)])
      · rw [← HW.out]
        exact HI.out.cell (HT.out i j hi hj)
end Go.Proofs.YthfngcpcccbnpaaDoor

/- edit.aligned: mathematics, and append at two rows. -/
namespace Go.Proofs.YthfngcpcccbnpaaDoor
open Go.RowKit Nums Ed
set_option maxRecDepth 100000

structure AI (xs ys F T : List Int) (a b : Nat) : Prop where
  unF : un F.reverse = xs.drop a
  unT : un T.reverse = ys.drop b
  len : F.length = T.length
  cnt : dif F T + lv (xs.take a) (ys.take b) = lv xs ys
  okF : ∀ x ∈ F, okR x
  okT : ∀ x ∈ T, okR x
  la : a ≤ xs.length
  lb : b ≤ ys.length
  sz : F.length + a + b ≤ xs.length + ys.length
theorem AI.start (xs ys : List Int) : AI xs ys [] [] xs.length ys.length :=
  ⟨by simp [un], by simp [un], rfl, by simp [dif], by simp, by simp, Nat.le_refl _, Nat.le_refl _, by simp⟩
theorem un_snoc (l : List Int) (x : Int) : un (l ++ [x]).reverse = if x = -1 then un l.reverse else x :: un l.reverse := by
  rw [List.reverse_append]; exact un_cons x l.reverse
theorem mem_snoc {l : List Int} {x : Int} (h : ∀ z ∈ l, okR z) (hx : okR x) : ∀ z ∈ l ++ [x], okR z := fun z hz => by
  rcases List.mem_append.1 hz with hz | hz
  · exact h z hz
  · rw [List.mem_singleton.1 hz]; exact hx
theorem dif_snoc {F T : List Int} (h : F.length = T.length) (x y : Int) : dif (F ++ [x]) (T ++ [y]) = dif F T + if x = y then 0 else 1 := by
  rw [dif_append _ _ _ _ h]; simp [dif]
theorem drop_atE {xs : List Int} {a : Nat} {x : Int} (h : xs[a]? = some x) : xs.drop a = x :: xs.drop (a + 1) := by
  obtain ⟨h1, rfl⟩ := List.getElem?_eq_some_iff.1 h
  exact List.drop_eq_getElem_cons h1
theorem AI.one {xs ys F T : List Int} {a b : Nat} {x : Int} (h : AI xs ys F T (a + 1) b) (hx : xs[a]? = some x) (hr : isR x = true) (hd : lv (xs.take (a + 1)) (ys.take b) = lv (xs.take a) (ys.take b) + 1) : AI xs ys (F ++ [x]) (T ++ [-1]) a b := by
  have hne := isR_ne hr
  refine ⟨by rw [un_snoc, if_neg hne, h.unF, drop_atE hx], by rw [un_snoc, if_pos rfl, h.unT], by simp [h.len], ?_, mem_snoc h.okF (.inr hr), mem_snoc h.okT (.inl rfl), by have := h.la; omega, h.lb, by have := h.sz; simp; omega⟩
  rw [dif_snoc h.len, if_neg hne]
  have := h.cnt; omega
theorem AI.two {xs ys F T : List Int} {a b : Nat} {y : Int} (h : AI xs ys F T a (b + 1)) (hy : ys[b]? = some y) (hr : isR y = true) (hd : lv (xs.take a) (ys.take (b + 1)) = lv (xs.take a) (ys.take b) + 1) : AI xs ys (F ++ [-1]) (T ++ [y]) a b := by
  have hne := isR_ne hr
  refine ⟨by rw [un_snoc, if_pos rfl, h.unF], by rw [un_snoc, if_neg hne, h.unT, drop_atE hy], by simp [h.len], ?_, mem_snoc h.okF (.inl rfl), mem_snoc h.okT (.inr hr), h.la, by have := h.lb; omega, by have := h.sz; simp; omega⟩
  rw [dif_snoc h.len, if_neg (fun e => hne e.symm)]
  have := h.cnt; omega
theorem AI.both {xs ys F T : List Int} {a b : Nat} {x y : Int} (h : AI xs ys F T (a + 1) (b + 1)) (hx : xs[a]? = some x) (hy : ys[b]? = some y) (h1 : isR x = true) (h2 : isR y = true) (hd1 : lv (xs.take (a + 1)) (ys.take (b + 1)) ≠ lv (xs.take a) (ys.take (b + 1)) + 1) (hd2 : lv (xs.take (a + 1)) (ys.take (b + 1)) ≠ lv (xs.take (a + 1)) (ys.take b) + 1) : AI xs ys (F ++ [x]) (T ++ [y]) a b := by
  have n1 := isR_ne h1
  have n2 := isR_ne h2
  refine ⟨by rw [un_snoc, if_neg n1, h.unF, drop_atE hx], by rw [un_snoc, if_neg n2, h.unT, drop_atE hy], by simp [h.len], ?_, mem_snoc h.okF (.inr h1), mem_snoc h.okT (.inr h2), by have := h.la; omega, by have := h.lb; omega, by have := h.sz; simp; omega⟩
  rw [dif_snoc h.len]
  have ex : xs.take (a + 1) = xs.take a ++ [x] := by rw [List.take_add_one, hx]; rfl
  have ey : ys.take (b + 1) = ys.take b ++ [y] := by rw [List.take_add_one, hy]; rfl
  have e := lv_snoc (xs.take a) (ys.take b) x y
  rw [← ex, ← ey] at e
  have := h.cnt; omega
theorem lv_zero_left (ys : List Int) {b : Nat} (h : b < ys.length) : lv ([] : List Int) (ys.take (b + 1)) = lv [] (ys.take b) + 1 := by
  rw [lv_left, lv_left, List.length_take, List.length_take]; omega
theorem lv_zero_right (xs : List Int) {a : Nat} (h : a < xs.length) : lv (xs.take (a + 1)) ([] : List Int) = lv (xs.take a) [] + 1 := by
  rw [lv_right, lv_right, List.length_take, List.length_take]; omega

theorem rtyRu : RTy 21 51 1 4 := ⟨Tryd.underlying51, ⟨.int .i32 0, infoRune, rfl⟩, by decide, by decide⟩
def one1 (xs : List Int) : List (List Value) := xs.map fun x => [.int .i32 x]
theorem one1_flat (xs : List Int) : (one1 xs).flatten = xs.map (Value.int .i32) := by
  induction xs with
  | nil => rfl
  | cons x r ih => simp only [one1, List.map_cons, List.flatten_cons] at ih ⊢; rw [ih]; rfl
theorem Made.gown {B : Nat} {w : World} {v : Value} {xs : List Int} (h : Made B w v xs) : GOwn 21 1 B w v (one1 xs) := by
  refine ⟨fun x hx => ?_, ?_⟩
  · obtain ⟨y, _, rfl⟩ := List.mem_map.1 hx; exact ⟨rfl, by simp [Value.oneCell']⟩
  · rw [one1_flat, show (one1 xs).length = xs.length by simp [one1]]; exact h
theorem GOwn.made {B : Nat} {w : World} {v : Value} {xs : List Int} (h : GOwn 21 1 B w v (one1 xs)) : Made B w v xs := by
  have := h.2
  rw [one1_flat, show (one1 xs).length = xs.length by simp [one1]] at this
  exact this
/-- 'append(l, x)' at runes: which blocks stay, and whose block the new row has. -/
theorem append_m {W : World} {ops : Array Oper} {rest : List Oper} {o : Oper} {a : Act} {Q : Exit → Act → World → Prop} (hgd : o.guard = none) (s y : Operand) (T2 : TypeId)
    (ho : o.op = .call { callee := .builtin .append, args := #[s, y], argTypes := #[51, 51] }) (B nb c : Nat) (v : Value) (xs : List Int) (x : Int) (hs : a.eval s = v) (hown : Made B W v xs) (hy : a.eval y = .slice (some ⟨nb, 0, none⟩) 1 c) (hnb : nb = W.heap.size) (h63 : xs.length < 1000000) (hB : B ≤ W.heap.size)
    (h : ∀ v' w', Made B w' v' (xs ++ [x]) → Below B W w' → (∀ j, j < W.heap.size → v.ownBlock ≠ some j → w'.heap[j]? = W.heap[j]?) → (v'.ownBlock = v.ownBlock ∨ ∃ g, v'.ownBlock = some g ∧ W.heap.size ≤ g) → wpList Tryd.prog ops Q rest (a.put o.dst v') w') : wpList Tryd.prog ops Q (o :: rest) a (W.alloc (.cells #[.int .i32 x] T2)) := by
  subst hnb
  have hbA : Below W.heap.size W (W.alloc (.cells #[.int .i32 x] T2)) := (Below.refl _ W).alloc (Nat.le_refl _) _
  obtain ⟨v', w', h1, h2, h3, h4⟩ := gappend_run rtyRu (hown.gown.below hbA) (by simp; omega) (x := [.int .i32 x]) ⟨rfl, by simp [Value.oneCell']⟩ (nb := W.heap.size) (fun j u hj => by
    match j, hj with
    | 0, hj => simp at hj; subst hj; exact new_cell W _ _) (by simp [one1]; omega) o.type c
  refine wpList_plain hgd fun _ hK => ?_
  unfold Oper.wp execOp
  simp only [ho, resolve, invoke, builtin, Sem.run_bind, Sem.run_pure, Result.andThen_ok, List.map_toArray, List.map_cons, List.map_nil, hs, hy, h1]
  refine hK _ _ (h v' w' ?_ (((Below.refl B W).alloc hB _).trans (gBelow (hown.gown.below hbA) h3 (by simp; omega))) (fun j hj hv => ?_) ?_)
  · have : one1 xs ++ [[.int .i32 x]] = one1 (xs ++ [x]) := by simp [one1]
    rw [this] at h2
    exact h2.made
  · rw [h3.block j (by simp; omega) (fun e => hv e.symm), Below.heap_alloc _ _ _ hj]
  · rcases h4 with h4 | ⟨g, h4, h5⟩
    · exact .inl h4
    · exact .inr ⟨g, h4, by simp at h5; omega⟩
end Go.Proofs.YthfngcpcccbnpaaDoor

/- edit.aligned: the walk. -/
namespace Go.Proofs.YthfngcpcccbnpaaDoor
open Go.RowKit Nums Ed
set_option maxRecDepth 100000

/-- Two rows of runes, each in a block of its own. -/
structure TwoM (H : Nat) (w : World) (vF vT : Value) (F T : List Int) : Prop where
  mF : Made H w vF F
  mT : Made H w vT T
  ap : ∀ g, vF.ownBlock = some g → vT.ownBlock ≠ some g
theorem Made.own_lt {B : Nat} {w : World} {v : Value} {xs : List Int} (h : Made B w v xs) {g : Nat} (hg : v.ownBlock = some g) : g < w.heap.size := h.gown.lt hg
theorem Made.same {B : Nat} {w w' : World} {v : Value} {xs : List Int} (h : Made B w v xs) (e : ∀ g, v.ownBlock = some g → w'.heap[g]? = w.heap[g]?) : Made B w' v xs := (h.gown.same e).made
theorem Made.dn {B : Nat} {w w' : World} {v : Value} {xs : List Int} (h : Made B w v xs) (hd : Dn w w') : Made B w' v xs := by obtain ⟨n, rfl⟩ := hd; exact h
theorem TwoM.dn {H : Nat} {w w' : World} {vF vT : Value} {F T : List Int} (h : TwoM H w vF vT F T) (hd : Dn w w') : TwoM H w' vF vT F T := ⟨h.mF.dn hd, h.mT.dn hd, h.ap⟩
theorem TwoM.mid {H : Nat} {W0 w1 : World} {vF vT : Value} {F T : List Int} (h : TwoM H W0 vF vT F T) (k1 : ∀ j, j < W0.heap.size → vF.ownBlock ≠ some j → w1.heap[j]? = W0.heap[j]?) : Made H w1 vT T :=
  h.mT.same fun g hg => k1 g (h.mT.own_lt hg) (fun e => h.ap g e hg)
theorem TwoM.step {H : Nat} {W0 w1 w2 : World} {vF vT v1 v2 : Value} {F T F' T' : List Int} (h : TwoM H W0 vF vT F T) (m1 : Made H w1 v1 F') (o1 : v1.ownBlock = vF.ownBlock ∨ ∃ g, v1.ownBlock = some g ∧ W0.heap.size ≤ g)
    (m2 : Made H w2 v2 T') (k2 : ∀ j, j < w1.heap.size → vT.ownBlock ≠ some j → w2.heap[j]? = w1.heap[j]?) (o2 : v2.ownBlock = vT.ownBlock ∨ ∃ g, v2.ownBlock = some g ∧ w1.heap.size ≤ g) : TwoM H w2 v1 v2 F' T' := by
  have key : ∀ g, v1.ownBlock = some g → vT.ownBlock ≠ some g := fun g hg ht => by
    rcases o1 with e | ⟨g', e, hg'⟩
    · exact h.ap g (by rw [← e]; exact hg) ht
    · rw [hg] at e; obtain rfl := Option.some.inj e
      have := h.mT.own_lt ht; omega
  refine ⟨m1.same fun g hg => k2 g (m1.own_lt hg) (key g hg), m2, fun g hg ht => ?_⟩
  rcases o2 with e | ⟨g', e, hg'⟩
  · exact key g hg (by rw [← e]; exact ht)
  · rw [ht] at e; obtain rfl := Option.some.inj e
    have := m1.own_lt hg; omega

set_option maxHeartbeats 2000000 in
theorem aligned_any (vx vy : Value) (xs ys : List Int) (w : World) (hx : RunesAt w.heap.size w vx xs) (hy : RunesAt w.heap.size w vy ys) (hxl : xs.length ≤ 2000) (hyl : ys.length ≤ 2000) (hxr : xs.all isR = true) (hyr : ys.all isR = true) :
    Calls Tryd.prog 40 #[vx, vy] w fun e w' => ∃ vF vT F T gF gT, e = .returned (.tuple #[vF, vT]) ∧ LAt w' vF gF F ∧ LAt w' vT gT T ∧ gT ≠ gF ∧ w.heap.size ≤ gF ∧ un F = xs ∧ un T = ys ∧ F.length = T.length ∧ T.length ≤ 4000 ∧ dif F T = lv xs ys ∧ (∀ x ∈ F, okR x) ∧ (∀ x ∈ T, okR x) ∧ Below w.heap.size w w' := by
  obtain ⟨adx, capx, rfl⟩ := hx.form
  obtain ⟨ady, capy, rfl⟩ := hy.form
  have HX : Hid (RunesAt w.heap.size w (.slice adx xs.length capx) xs) := hx
  have HY : Hid (RunesAt w.heap.size w (.slice ady ys.length capy) ys) := hy
  have HXR : Hid (∀ x ∈ xs, isR x = true) := List.all_eq_true.1 hxr
  have HYR : Hid (∀ x ∈ ys, isR x = true) := List.all_eq_true.1 hyr
  clear hx hy hxr hyr
  go_enter Tryd.func40, Tryd.ntmps40
  go_upto_region 2 with (go_at_call 65; refine (table_any _ _ xs ys _ HX.out HY.out hxl hyl).mono ?_; rintro e w1 ⟨g, gl, rfl, htab, hb1⟩)
  obtain ⟨H, hH⟩ : ∃ H, H = w1.heap.size := ⟨_, rfl⟩
  have HH : Hid (H = w1.heap.size) := hH
  have HTAB : Hid (TabAt w1 gl g xs ys) := htab
  have hwH : w.heap.size ≤ H := by rw [hH]; exact hb1.size
  clear hH htab
  go_wp2
  go_loopw [4, 5, 7, 8] (fun vF vT i j wr => ∃ (a b : Nat) (F T : List Int) (f0 t0 : Value), f0 = vF ∧ t0 = vT ∧ i = .int .i64 a ∧ j = .int .i64 b ∧ AI xs ys F T a b ∧ TwoM H wr vF vT F T ∧ Below H w1 wr) (fun _ _ i j _ => (intOf i).toNat + (intOf j).toNat)
  case atStart => exact ⟨xs.length, ys.length, [], [], _, _, rfl, rfl, rfl, rfl, AI.start xs ys, ⟨World.ownsRow_nil _ _ _ _, World.ownsRow_nil _ _ _ _, fun g h => by cases h⟩, Below.refl _ _⟩
  case round =>
    obtain ⟨a, b, F, T, vF, vT, hf0, ht0, rfl, rfl, hAI, hTW, hbel⟩ := hrel
    subst hf0 ht0
    have HAI : Hid (AI xs ys F T a b) := hAI
    have HTW : Hid (TwoM H wr vF vT F T) := hTW
    have hla := hAI.la
    have hlb := hAI.lb
    have htab : TabAt wr gl g xs ys := HTAB.out.below (B := H) (by have := HTAB.out.lt; have := HH.out; omega) hbel
    have HTR : Hid (TabAt wr gl g xs ys) := htab
    have hbw : Below w.heap.size w wr := hb1.trans (hbel.mono hwH)
    clear hAI hTW htab
    obtain ⟨W, hW⟩ : ∃ W, W = ys.length + 1 := ⟨_, rfl⟩
    have hra := HTR.out.row a hla
    have hna := HTR.out.num a b hla hlb
    rw [← hW] at hra hna
    obtain ⟨ma, hma⟩ : ∃ ma, ma = a * W := ⟨_, rfl⟩
    rw [← hma] at hra hna
    have hD := dr_bd (xs.take a) ys b
    rw [List.length_take] at hD
    by_cases ha0 : a = 0
    · by_cases hb0 : b = 0
      · subst ha0 hb0
        have HF : Hid (un F.reverse = xs ∧ un T.reverse = ys ∧ dif F T = lv xs ys ∧ F.length ≤ 4000) := by
          have h := HAI.out
          refine ⟨by simpa using h.unF, by simpa using h.unT, ?_, by have := h.sz; omega⟩
          have := h.cnt
          rw [List.take_zero, List.take_zero, lv_left] at this
          simpa using this
        have HLN : Hid (F.length = T.length) := HAI.out.len
        have HOK : Hid ((∀ x ∈ F, okR x) ∧ (∀ x ∈ T, okR x)) := ⟨HAI.out.okF, HAI.out.okT⟩
        obtain ⟨gF, gT, hne, hHF, hHT, hLF, hLT⟩ : ∃ gF gT, gT ≠ gF ∧ H ≤ gF ∧ H ≤ gT ∧ LAt wr vF gF F ∧ LAt wr vT gT T := by
          obtain ⟨gF, hF1, hF2, hF3⟩ := HTW.out.mF.line
          obtain ⟨gT, hT1, hT2, hT3⟩ := HTW.out.mT.line
          rcases hF3 with e | hF3
          · refine ⟨gT + 1, gT, by omega, by omega, hT1, .inl ⟨e, ?_⟩, hT2⟩
            rcases hF2 with h | ⟨_, h, _⟩
            · exact h.2
            · rw [e] at h; cases h
          · rcases hT3 with e | hT3
            · refine ⟨gF, gF + 1, by omega, hF1, by omega, hF2, .inl ⟨e, ?_⟩⟩
              rcases hT2 with h | ⟨_, h, _⟩
              · exact h.2
              · rw [e] at h; cases h
            · exact ⟨gF, gT, fun e => HTW.out.ap gF hF3 (by rw [← e]; exact hT3), hF1, hT1, hF2, hT2⟩
        have HLF : Hid (LAt wr vF gF F) := hLF
        have HLT : Hid (LAt wr vT gT T) := hLT
        clear hra hna hma hD hW hLF hLT
        have hag : decide ((0 : Nat) < 0) = false := by simp
        go_upto_region 16 with (go_at_call 66; refine (Reverse_any vF gF F _ HLF.out (by have := HF.out; omega)).mono ?_; rintro e w4 ⟨rfl, hL4, hb4⟩)
        have HLT4 : Hid (LAt w4 vT gT T) := HLT.out.but hb4 hne
        have HL4 : Hid (LAt w4 vF gF F.reverse) := hL4
        clear hL4
        go_wp2_with (go_at_call 66; refine (Reverse_any vT gT T _ HLT4.out (by have := HF.out; have := HLN.out; omega)).mono ?_; rintro e w5 ⟨rfl, hL5, hb5⟩)
        go_ret2
        have h45 : Below w.heap.size w w4 := hbw.trans (hb4.below (by omega) hbw.size)
        exact ⟨vF, vT, F.reverse, T.reverse, gF, gT, rfl, HL4.out.but hb5 (fun e => hne e.symm), hL5, hne, by omega, HF.out.1, HF.out.2.1, by simp [HLN.out], by have := HF.out; have := HLN.out; simp; omega, by rw [dif_rev _ _ HLN.out]; exact HF.out.2.2.1, fun x hx => HOK.out.1 x (List.mem_reverse.1 hx), fun x hx => HOK.out.2 x (List.mem_reverse.1 hx), h45.trans (hb5.below (by omega) h45.size)⟩
      · have HA0 : Hid (a = 0) := ha0
        obtain ⟨b1, hb1e⟩ : ∃ b1, b = b1 + 1 := ⟨b - 1, by omega⟩
        have hnc := HTR.out.num a b1 hla (by omega)
        rw [← hW, ← hma] at hnc
        have hD2 := dr_bd (xs.take a) ys b1
        rw [List.length_take] at hD2
        obtain ⟨y, hy⟩ : ∃ y, ys[b1]? = some y := ⟨_, List.getElem?_eq_getElem (by omega)⟩
        have HYB : Hid (ys[b1]? = some y) := hy
        have hyr : isR y = true := HYR.out y (List.mem_of_getElem? hy)
        have HYI : Hid (isR y = true) := hyr
        have hyne : (y != -1) = true := by have := isR_ne hyr; simpa using this
        obtain ⟨gy, offy, rfl, hgy, hcy⟩ := (HY.out.below hbw).at hy
        have HB1X : Hid (b = b1 + 1) := hb1e
        have hwb : IntKind.i64.wrap ((b : Int) - 1) = (b1 : Int) := by rw [IntKind.wrap_i64]; omega
        have hbg : decide (0 < b) = true := by simp; omega
        have hbg2 : (0 : Int) < (b : Int) := by omega
        have hbb3 : (b : Int) < (ys.length : Int) + 1 := by omega
        have hb1b : (b1 : Int) < (ys.length : Int) + 1 := by omega
        have hb1c : (b1 : Int) < (ys.length : Int) := by omega
        have hbb4 : (b : Int) < (W : Int) := by omega
        have hb1d : (b1 : Int) < (W : Int) := by omega
        have hag : decide (0 < a) = false := by rw [ha0]; rfl
        have hc2 : lv (xs.take a) (ys.take b) = lv (xs.take a) (ys.take b1) + 1 := by
          rw [ha0, HB1X.out, List.take_zero]; exact lv_zero_left ys (by omega)
        have HAN : Hid (AI xs ys (F ++ [-1]) (T ++ [y]) a b1) := by
          have h := HAI.out
          rw [HB1X.out] at h hc2
          exact h.two HYB.out HYI.out hc2
        generalize lv (xs.take a) (ys.take b) = d at *
        generalize lv (xs.take a) (ys.take b1) = d2 at *
        have hwd2 : IntKind.i64.wrap ((d2 : Int) + 1) = (d2 : Int) + 1 := by rw [IntKind.wrap_i64]; omega
        have hde2 : ((d : Int) == (d2 : Int) + 1) = true := by rw [hc2]; simp
        have hab : (a : Int) < (xs.length : Int) + 1 := by omega
        clear hc2 ha0 hb0 hb1e hma hy hyr hW
        go_wp2
        go_quiet (fail)
        go_wp2
        go_quiet (fail)
        go_upto_region 14 with (fail)
        generalize hW0 : wr.drewN _ = W0
        have hD0 : Dn wr W0 := ⟨_, hW0.symm⟩
        clear hW0
        have HT0 : Hid (TwoM H W0 vF vT F T) := HTW.out.dn hD0
        have HB0 : Hid (Below H w1 W0) := by obtain ⟨n, rfl⟩ := hD0; exact below_drewN hbel n
        have hH0 : Hid (H ≤ W0.heap.size) := by unfold Hid; have := HB0.out.size; have := HH.out; omega
        go_wp2_with (at_builtin; refine append_m rfl _ _ _ rfl H _ _ vF F (-1) rfl HT0.out.mF rfl rfl (by have := HAI.out.sz; omega) hH0.out ?_)
        intro v1 wm hm1 hb1 hk1 ho1
        have HM1 : Hid (Made H wm v1 (F ++ [(-1)])) := hm1
        have HMT : Hid (Made H wm vT T) := HT0.out.mid hk1
        have hsm : Hid (W0.heap.size ≤ wm.heap.size) := hb1.size
        have HHm : Hid (H ≤ wm.heap.size) := Nat.le_trans hH0.out hsm.out
        have HO1 : Hid (v1.ownBlock = vF.ownBlock ∨ ∃ g, v1.ownBlock = some g ∧ W0.heap.size ≤ g) := ho1
        have HB1 : Hid (Below H W0 wm) := hb1
        clear hm1 hk1 ho1 hb1
        go_wp2_with (at_builtin; refine append_m rfl _ _ _ rfl H _ _ vT T y rfl HMT.out rfl rfl (by have := HAI.out.sz; have := HAI.out.len; omega) HHm.out ?_)
        intro v2 wn hm2 hb2 hk2 ho2
        have HTN : Hid (TwoM H wn v1 v2 (F ++ [(-1)]) (T ++ [y])) := HT0.out.step HM1.out HO1.out hm2 hk2 ho2
        have HBN : Hid (Below H w1 wn) := (HB0.out.trans HB1.out).trans hb2
        clear hm2 hk2 ho2 hb2
        go_wp2
        go_roundw
        case rel =>
          first
            | exact ⟨a, b1, F ++ [(-1)], T ++ [y], _, _, rfl, rfl, rfl, rfl, HAN.out, HTN.out, HBN.out⟩
            | (repeat (apply Exists.intro)
               refine ⟨?_, rfl⟩
               exact ⟨a, b1, F ++ [(-1)], T ++ [y], _, _, rfl, rfl, rfl, rfl, HAN.out, HTN.out, HBN.out⟩)
        case measure => simp [intOf]; first | omega | (have := HA1.out; omega) | (have := HB1X.out; omega) | (have := HA1.out; have := HB1X.out; omega)
    · obtain ⟨a1, ha1⟩ : ∃ a1, a = a1 + 1 := ⟨a - 1, by omega⟩
      have hrb := HTR.out.row a1 (by omega)
      have hnb := HTR.out.num a1 b (by omega) hlb
      rw [← hW] at hrb hnb
      obtain ⟨mb, hmb⟩ : ∃ mb, mb = a1 * W := ⟨_, rfl⟩
      rw [← hmb] at hrb hnb
      have hD1 := dr_bd (xs.take a1) ys b
      rw [List.length_take] at hD1
      obtain ⟨x, hx⟩ : ∃ x, xs[a1]? = some x := ⟨_, List.getElem?_eq_getElem (by omega)⟩
      have HXA : Hid (xs[a1]? = some x) := hx
      have hxr : isR x = true := HXR.out x (List.mem_of_getElem? hx)
      have HXI : Hid (isR x = true) := hxr
      have hxne : (x != -1) = true := by have := isR_ne hxr; simpa using this
      obtain ⟨gx, offx, rfl, hgx, hcx⟩ := (HX.out.below hbw).at hx
      have HA1 : Hid (a = a1 + 1) := ha1
      have hwa : IntKind.i64.wrap ((a : Int) - 1) = (a1 : Int) := by rw [IntKind.wrap_i64]; omega
      have hag : decide (0 < a) = true := by simp; omega
      have hag2 : (0 : Int) < (a : Int) := by omega
      have hab : (a : Int) < (xs.length : Int) + 1 := by omega
      have ha1b : (a1 : Int) < (xs.length : Int) + 1 := by omega
      have ha1c : (a1 : Int) < (xs.length : Int) := by omega
      have hbb : (b : Int) < (W : Int) := by omega
      by_cases hc1 : lv (xs.take a) (ys.take b) = lv (xs.take a1) (ys.take b) + 1
      · have HAN : Hid (AI xs ys (F ++ [x]) (T ++ [-1]) a1 b) := by
          have h := HAI.out
          rw [HA1.out] at h hc1
          exact h.one HXA.out HXI.out hc1
        generalize lv (xs.take a) (ys.take b) = d at *
        generalize lv (xs.take a1) (ys.take b) = d1 at *
        have hwd : IntKind.i64.wrap ((d1 : Int) + 1) = (d1 : Int) + 1 := by rw [IntKind.wrap_i64]; omega
        have hde : ((d : Int) == (d1 : Int) + 1) = true := by rw [hc1]; simp
        clear hc1 ha0 ha1 hma hmb hx hxr hW
        go_wp2
        go_quiet (fail)
        go_upto_region 14 with (fail)
        generalize hW0 : wr.drewN _ = W0
        have hD0 : Dn wr W0 := ⟨_, hW0.symm⟩
        clear hW0
        have HT0 : Hid (TwoM H W0 vF vT F T) := HTW.out.dn hD0
        have HB0 : Hid (Below H w1 W0) := by obtain ⟨n, rfl⟩ := hD0; exact below_drewN hbel n
        have hH0 : Hid (H ≤ W0.heap.size) := by unfold Hid; have := HB0.out.size; have := HH.out; omega
        go_wp2_with (at_builtin; refine append_m rfl _ _ _ rfl H _ _ vF F x rfl HT0.out.mF rfl rfl (by have := HAI.out.sz; omega) hH0.out ?_)
        intro v1 wm hm1 hb1 hk1 ho1
        have HM1 : Hid (Made H wm v1 (F ++ [x])) := hm1
        have HMT : Hid (Made H wm vT T) := HT0.out.mid hk1
        have hsm : Hid (W0.heap.size ≤ wm.heap.size) := hb1.size
        have HHm : Hid (H ≤ wm.heap.size) := Nat.le_trans hH0.out hsm.out
        have HO1 : Hid (v1.ownBlock = vF.ownBlock ∨ ∃ g, v1.ownBlock = some g ∧ W0.heap.size ≤ g) := ho1
        have HB1 : Hid (Below H W0 wm) := hb1
        clear hm1 hk1 ho1 hb1
        go_wp2_with (at_builtin; refine append_m rfl _ _ _ rfl H _ _ vT T (-1) rfl HMT.out rfl rfl (by have := HAI.out.sz; have := HAI.out.len; omega) HHm.out ?_)
        intro v2 wn hm2 hb2 hk2 ho2
        have HTN : Hid (TwoM H wn v1 v2 (F ++ [x]) (T ++ [(-1)])) := HT0.out.step HM1.out HO1.out hm2 hk2 ho2
        have HBN : Hid (Below H w1 wn) := (HB0.out.trans HB1.out).trans hb2
        clear hm2 hk2 ho2 hb2
        go_wp2
        go_roundw
        case rel =>
          first
            | exact ⟨a1, b, F ++ [x], T ++ [(-1)], _, _, rfl, rfl, rfl, rfl, HAN.out, HTN.out, HBN.out⟩
            | (repeat (apply Exists.intro)
               refine ⟨?_, rfl⟩
               exact ⟨a1, b, F ++ [x], T ++ [(-1)], _, _, rfl, rfl, rfl, rfl, HAN.out, HTN.out, HBN.out⟩)
        case measure => simp [intOf]; first | omega | (have := HA1.out; omega) | (have := HB1X.out; omega) | (have := HA1.out; have := HB1X.out; omega)
      · have hb0 : b ≠ 0 := fun e => hc1 (by rw [e, List.take_zero, HA1.out]; exact lv_zero_right xs (by omega))
        obtain ⟨b1, hb1e⟩ : ∃ b1, b = b1 + 1 := ⟨b - 1, by omega⟩
        have hnc := HTR.out.num a b1 hla (by omega)
        rw [← hW, ← hma] at hnc
        have hD2 := dr_bd (xs.take a) ys b1
        rw [List.length_take] at hD2
        obtain ⟨y, hy⟩ : ∃ y, ys[b1]? = some y := ⟨_, List.getElem?_eq_getElem (by omega)⟩
        have HYB : Hid (ys[b1]? = some y) := hy
        have hyr : isR y = true := HYR.out y (List.mem_of_getElem? hy)
        have HYI : Hid (isR y = true) := hyr
        have hyne : (y != -1) = true := by have := isR_ne hyr; simpa using this
        obtain ⟨gy, offy, rfl, hgy, hcy⟩ := (HY.out.below hbw).at hy
        have HB1X : Hid (b = b1 + 1) := hb1e
        have hwb : IntKind.i64.wrap ((b : Int) - 1) = (b1 : Int) := by rw [IntKind.wrap_i64]; omega
        have hbg : decide (0 < b) = true := by simp; omega
        have hbg2 : (0 : Int) < (b : Int) := by omega
        have hbb3 : (b : Int) < (ys.length : Int) + 1 := by omega
        have hb1b : (b1 : Int) < (ys.length : Int) + 1 := by omega
        have hb1c : (b1 : Int) < (ys.length : Int) := by omega
        have hbb4 : (b : Int) < (W : Int) := by omega
        have hb1d : (b1 : Int) < (W : Int) := by omega
        have HC1 : Hid (lv (xs.take a) (ys.take b) ≠ lv (xs.take a1) (ys.take b) + 1) := hc1
        by_cases hc2 : lv (xs.take a) (ys.take b) = lv (xs.take a) (ys.take b1) + 1
        · have HAN : Hid (AI xs ys (F ++ [-1]) (T ++ [y]) a b1) := by
            have h := HAI.out
            rw [HB1X.out] at h hc2
            exact h.two HYB.out HYI.out hc2
          clear HC1
          generalize lv (xs.take a) (ys.take b) = d at *
          generalize lv (xs.take a1) (ys.take b) = d1 at *
          generalize lv (xs.take a) (ys.take b1) = d2 at *
          have hwd : IntKind.i64.wrap ((d1 : Int) + 1) = (d1 : Int) + 1 := by rw [IntKind.wrap_i64]; omega
          have hde : ((d : Int) == (d1 : Int) + 1) = false := beq_eq_false_iff_ne.2 (by omega)
          have hwd2 : IntKind.i64.wrap ((d2 : Int) + 1) = (d2 : Int) + 1 := by rw [IntKind.wrap_i64]; omega
          have hde2 : ((d : Int) == (d2 : Int) + 1) = true := by rw [hc2]; simp
          clear hc1 hc2 ha0 hb0 hb1e ha1 hma hmb hx hxr hy hyr hW
          go_wp2
          go_quiet (fail)
          go_wp2
          go_quiet (fail)
          go_upto_region 14 with (fail)
          generalize hW0 : wr.drewN _ = W0
          have hD0 : Dn wr W0 := ⟨_, hW0.symm⟩
          clear hW0
          have HT0 : Hid (TwoM H W0 vF vT F T) := HTW.out.dn hD0
          have HB0 : Hid (Below H w1 W0) := by obtain ⟨n, rfl⟩ := hD0; exact below_drewN hbel n
          have hH0 : Hid (H ≤ W0.heap.size) := by unfold Hid; have := HB0.out.size; have := HH.out; omega
          go_wp2_with (at_builtin; refine append_m rfl _ _ _ rfl H _ _ vF F (-1) rfl HT0.out.mF rfl rfl (by have := HAI.out.sz; omega) hH0.out ?_)
          intro v1 wm hm1 hb1 hk1 ho1
          have HM1 : Hid (Made H wm v1 (F ++ [(-1)])) := hm1
          have HMT : Hid (Made H wm vT T) := HT0.out.mid hk1
          have hsm : Hid (W0.heap.size ≤ wm.heap.size) := hb1.size
          have HHm : Hid (H ≤ wm.heap.size) := Nat.le_trans hH0.out hsm.out
          have HO1 : Hid (v1.ownBlock = vF.ownBlock ∨ ∃ g, v1.ownBlock = some g ∧ W0.heap.size ≤ g) := ho1
          have HB1 : Hid (Below H W0 wm) := hb1
          clear hm1 hk1 ho1 hb1
          go_wp2_with (at_builtin; refine append_m rfl _ _ _ rfl H _ _ vT T y rfl HMT.out rfl rfl (by have := HAI.out.sz; have := HAI.out.len; omega) HHm.out ?_)
          intro v2 wn hm2 hb2 hk2 ho2
          have HTN : Hid (TwoM H wn v1 v2 (F ++ [(-1)]) (T ++ [y])) := HT0.out.step HM1.out HO1.out hm2 hk2 ho2
          have HBN : Hid (Below H w1 wn) := (HB0.out.trans HB1.out).trans hb2
          clear hm2 hk2 ho2 hb2
          go_wp2
          go_roundw
          case rel =>
            first
              | exact ⟨a, b1, F ++ [(-1)], T ++ [y], _, _, rfl, rfl, rfl, rfl, HAN.out, HTN.out, HBN.out⟩
              | (repeat (apply Exists.intro)
                 refine ⟨?_, rfl⟩
                 exact ⟨a, b1, F ++ [(-1)], T ++ [y], _, _, rfl, rfl, rfl, rfl, HAN.out, HTN.out, HBN.out⟩)
          case measure => simp [intOf]; first | omega | (have := HA1.out; omega) | (have := HB1X.out; omega) | (have := HA1.out; have := HB1X.out; omega)
        · have HAN : Hid (AI xs ys (F ++ [x]) (T ++ [y]) a1 b1) := by
            have h := HAI.out
            have h1 := HC1.out
            rw [HB1X.out, HA1.out] at h h1 hc2
            exact h.both HXA.out HYB.out HXI.out HYI.out h1 hc2
          clear HC1
          generalize lv (xs.take a) (ys.take b) = d at *
          generalize lv (xs.take a1) (ys.take b) = d1 at *
          generalize lv (xs.take a) (ys.take b1) = d2 at *
          have hwd : IntKind.i64.wrap ((d1 : Int) + 1) = (d1 : Int) + 1 := by rw [IntKind.wrap_i64]; omega
          have hde : ((d : Int) == (d1 : Int) + 1) = false := beq_eq_false_iff_ne.2 (by omega)
          have hwd2 : IntKind.i64.wrap ((d2 : Int) + 1) = (d2 : Int) + 1 := by rw [IntKind.wrap_i64]; omega
          have hde2 : ((d : Int) == (d2 : Int) + 1) = false := beq_eq_false_iff_ne.2 (by omega)
          clear hc1 hc2 ha0 hb0 hb1e ha1 hma hmb hx hxr hy hyr hW
          go_wp2
          go_quiet (fail)
          go_wp2
          go_quiet (fail)
          go_wp2
          go_quiet (fail)
          go_upto_region 14 with (fail)
          generalize hW0 : wr.drewN _ = W0
          have hD0 : Dn wr W0 := ⟨_, hW0.symm⟩
          clear hW0
          have HT0 : Hid (TwoM H W0 vF vT F T) := HTW.out.dn hD0
          have HB0 : Hid (Below H w1 W0) := by obtain ⟨n, rfl⟩ := hD0; exact below_drewN hbel n
          have hH0 : Hid (H ≤ W0.heap.size) := by unfold Hid; have := HB0.out.size; have := HH.out; omega
          go_wp2_with (at_builtin; refine append_m rfl _ _ _ rfl H _ _ vF F x rfl HT0.out.mF rfl rfl (by have := HAI.out.sz; omega) hH0.out ?_)
          intro v1 wm hm1 hb1 hk1 ho1
          have HM1 : Hid (Made H wm v1 (F ++ [x])) := hm1
          have HMT : Hid (Made H wm vT T) := HT0.out.mid hk1
          have hsm : Hid (W0.heap.size ≤ wm.heap.size) := hb1.size
          have HHm : Hid (H ≤ wm.heap.size) := Nat.le_trans hH0.out hsm.out
          have HO1 : Hid (v1.ownBlock = vF.ownBlock ∨ ∃ g, v1.ownBlock = some g ∧ W0.heap.size ≤ g) := ho1
          have HB1 : Hid (Below H W0 wm) := hb1
          clear hm1 hk1 ho1 hb1
          go_wp2_with (at_builtin; refine append_m rfl _ _ _ rfl H _ _ vT T y rfl HMT.out rfl rfl (by have := HAI.out.sz; have := HAI.out.len; omega) HHm.out ?_)
          intro v2 wn hm2 hb2 hk2 ho2
          have HTN : Hid (TwoM H wn v1 v2 (F ++ [x]) (T ++ [y])) := HT0.out.step HM1.out HO1.out hm2 hk2 ho2
          have HBN : Hid (Below H w1 wn) := (HB0.out.trans HB1.out).trans hb2
          clear hm2 hk2 ho2 hb2
          go_wp2
          go_roundw
          case rel =>
            first
              | exact ⟨a1, b1, F ++ [x], T ++ [y], _, _, rfl, rfl, rfl, rfl, HAN.out, HTN.out, HBN.out⟩
              | (repeat (apply Exists.intro)
                 refine ⟨?_, rfl⟩
                 exact ⟨a1, b1, F ++ [x], T ++ [y], _, _, rfl, rfl, rfl, rfl, HAN.out, HTN.out, HBN.out⟩)
          case measure => simp [intOf]; first | omega | (have := HA1.out; omega) | (have := HB1X.out; omega) | (have := HA1.out; have := HB1X.out; omega)
end Go.Proofs.YthfngcpcccbnpaaDoor
