/- edit.table: all rows of distances. -/
import Derived.Test.YtjfbildaaobfpaaDoorEdDist2
namespace Go.Proofs.YtjfbildaaobfpaaDoor
open Go.RowKit Nums Ed
set_option maxRecDepth 100000

/-- The rows of which those up to k are full. -/
def rowsT (g W n k : Nat) : List Value := (List.range n).map fun i => .slice (some ⟨g, i * W, none⟩) (if i < k then W else 0) W
theorem rowsT_len (g W n k : Nat) : (rowsT g W n k).length = n := by simp [rowsT]
theorem rowsT_get (g W n k : Nat) {i : Nat} (h : i < n) : (rowsT g W n k)[i]? = some (.slice (some ⟨g, i * W, none⟩) (if i < k then W else 0) W) := by
  unfold rowsT
  rw [List.getElem?_map, List.getElem?_range h]
  rfl
theorem rowsT_set (g W n k : Nat) : (rowsT g W n k).set k (.slice (some ⟨g, k * W, none⟩) W W) = rowsT g W n (k + 1) := by
  apply List.ext_getElem?
  intro i
  rw [List.getElem?_set]
  by_cases hi : i < n
  · rw [rowsT_get _ _ _ _ hi, rowsT_get _ _ _ _ hi, rowsT_len]
    by_cases e : k = i
    · subst e; rw [if_pos rfl, if_pos hi, if_pos (by omega)]
    · rw [if_neg e]
      by_cases c : i < k
      · rw [if_pos c, if_pos (by omega)]
      · rw [if_neg c, if_neg (by omega)]
  · rw [List.getElem?_eq_none (by rw [rowsT_len]; omega), List.getElem?_eq_none (by rw [rowsT_len]; omega), rowsT_len]
    split
    · rw [if_neg (by omega)]
    · rfl
theorem rowsT_zero (g W n : Nat) : rowsV g W n n = rowsT g W n 0 := by
  apply List.ext_getElem?
  intro i
  by_cases hi : i < n
  · rw [rowsV_get _ _ _ _ hi, rowsT_get _ _ _ _ hi, if_pos hi, if_neg (by omega)]
  · rw [List.getElem?_eq_none (by rw [rowsV_len]; omega), List.getElem?_eq_none (by rw [rowsT_len]; omega)]
/-- The table lies in memory. -/
structure TabAt (w : World) (gl g : Nat) (xs ys : List Int) : Prop where
  row : ∀ i, i ≤ xs.length → w.cell? ⟨gl, i, none⟩ = some (.slice (some ⟨g, i * (ys.length + 1), none⟩) (ys.length + 1) (ys.length + 1))
  num : ∀ i j, i ≤ xs.length → j ≤ ys.length → w.cell? ⟨g, i * (ys.length + 1) + j, none⟩ = some (.int .i64 (lv (xs.take i) (ys.take j) : Int))
theorem TabAt.lt {w : World} {gl g : Nat} {xs ys : List Int} (h : TabAt w gl g xs ys) : gl < w.heap.size ∧ g < w.heap.size :=
  ⟨lt_of_cell (h.row 0 (Nat.zero_le _)), lt_of_cell (h.num 0 0 (Nat.zero_le _) (Nat.zero_le _))⟩
theorem TabAt.below {w w' : World} {gl g : Nat} {xs ys : List Int} (h : TabAt w gl g xs ys) {B : Nat} (hg : gl < B ∧ g < B) (hb : Below B w w') : TabAt w' gl g xs ys :=
  ⟨fun i hi => (hb.cell (p := ⟨gl, i, none⟩) hg.1).trans (h.row i hi), fun i j hi hj => (hb.cell (p := ⟨g, _, none⟩) hg.2).trans (h.num i j hi hj)⟩

set_option maxHeartbeats 1000000 in
theorem table_any (vx vy : Value) (xs ys : List Int) (w : World) (hx : RunesAt w.heap.size w vx xs) (hy : RunesAt w.heap.size w vy ys) (hxl : xs.length ≤ 2000) (hyl : ys.length ≤ 2000) :
    Calls Tryd.prog 33 #[vx, vy] w fun e w' => ∃ g gl, e = .returned (.slice (some ⟨gl, 0, none⟩) (xs.length + 1) (xs.length + 1)) ∧ TabAt w' gl g xs ys ∧ Below w.heap.size w w' := by
  obtain ⟨adx, capx, rfl⟩ := hx.form
  obtain ⟨ady, capy, rfl⟩ := hy.form
  have HX : Hid (RunesAt w.heap.size w (.slice adx xs.length capx) xs) := hx
  have HY : Hid (RunesAt w.heap.size w (.slice ady ys.length capy) ys) := hy
  clear hx hy
  obtain ⟨W, hW⟩ : ∃ W, W = ys.length + 1 := ⟨_, rfl⟩
  obtain ⟨N, hN⟩ : ∃ N, N = xs.length + 1 := ⟨_, rfl⟩
  have hwW : IntKind.i64.wrap ((ys.length : Int) + 1) = (W : Int) := by rw [IntKind.wrap_i64]; omega
  have hwN : IntKind.i64.wrap ((xs.length : Int) + 1) = (N : Int) := by rw [IntKind.wrap_i64]; omega
  have HW : Hid (W = ys.length + 1) := hW
  have HN : Hid (N = xs.length + 1) := hN
  have hW1 : 1 ≤ W := by omega
  have hN1 : 1 ≤ N := by omega
  have hW2 : W ≤ 2001 := by omega
  have hN2 : N ≤ 2001 := by omega
  rw [← hN]
  clear hW hN
  go_enter Tryd.func33, Tryd.ntmps33
  go_upto_region 2 with (go_at_call 20; refine (rows_any N W _ hN1 hW1 (by omega) (by omega)).mono ?_; rintro e w2 ⟨g, gl, rfl, hL, hI, hb2, hg1, hg2, hgne⟩)
  have hWN : Hid (W ≤ N * W) := by
    have := Nat.mul_le_mul_right W hN1
    unfold Hid; omega
  have hL0 : w2.cell? ⟨gl, 0, none⟩ = some (.slice (some ⟨g, 0, none⟩) 0 W) := hL.cell (by rw [rowsV_get _ _ _ _ (by omega)]; simp; omega)
  have HST := start_any w2 g 0 W _ ys hI (by have := HW.out; omega) (by simp; have := HW.out; have := hWN.out; omega) (by omega)
  have HL : Hid (LBlk w2 gl (rowsV g W N N)) := hL
  clear hL hI
  go_upto_region 3 with (go_at_call 21; refine HST.mono ?_; rintro e w3 ⟨rfl, hI3, hb3⟩; have hc3 : w3.cell? ⟨gl, 0, none⟩ = some (.slice (some ⟨g, 0, none⟩) 0 W) := (HL.out.but hb3 hgne).cell (by rw [rowsV_get _ _ _ _ (by omega)]; simp; omega); have hf3 : w3.frozen? ⟨gl, 0, none⟩ = false := (HL.out.but hb3 hgne).frozen 0)
  have hlen0 : Hid (0 + (dr [] ys).length ≤ (List.replicate (N * W) (0 : Int)).length) := by unfold Hid; rw [dr_len, List.length_replicate]; have := HW.out; have := hWN.out; omega
  have hg3 : g < w3.heap.size := hI3.lt
  obtain ⟨W4, hW4⟩ : ∃ W4, W4 = w3.setCell ⟨gl, 0, none⟩ (.slice (some ⟨g, 0, none⟩) (ys.length + 1) W) := ⟨_, rfl⟩
  rw [← hW4]
  have hL4 : LBlk W4 gl (rowsT g W N 1) := by
    have := (HL.out.but hb3 hgne).set 0 (.slice (some ⟨g, 0 * W, none⟩) W W)
    rw [rowsT_zero, rowsT_set, Nat.zero_mul, show (.slice (some ⟨g, 0, none⟩) W W : Value) = .slice (some ⟨g, 0, none⟩) (ys.length + 1) W by rw [← HW.out]] at this
    rw [hW4]
    exact this
  have hI4 : IBlk W4 g (lay (List.replicate (N * W) 0) 0 (dr [] ys)) := by rw [hW4]; exact hI3.same (Below.heap_setCell _ _ _ _ (fun e => hgne e.symm))
  have hb4 : Below w.heap.size w W4 := by
    rw [hW4]
    exact (hb2.trans (hb3.below hg1 hb2.size)).setCell hg2 _
  clear hW4 hc3 hf3 hI3 hb3 HL HST hL0 hb2
  have HI4 : Hid (IBlk W4 g (lay (List.replicate (N * W) 0) 0 (dr [] ys))) := hI4
  clear hI4
  go_wp2
  go_loopw [25] (fun i wr => ∃ (k : Nat) (cs : List Int), k ≤ xs.length ∧ i = .int .i64 k ∧ LBlk wr gl (rowsT g W N (k + 1)) ∧ IBlk wr g cs ∧ cs.length = N * W ∧ (∀ i j, i ≤ k → j ≤ ys.length → cs[i * W + j]? = some (lv (xs.take i) (ys.take j) : Int)) ∧ Below w.heap.size w wr) (fun i _ => xs.length - (intOf i).toNat)
  case atStart =>
    refine ⟨0, _, Nat.zero_le _, rfl, hL4, HI4.out, by rw [lay_len hlen0.out, List.length_replicate], fun i j hi hj => ?_, hb4⟩
    obtain rfl : i = 0 := by omega
    have := lay_in (i := j) hlen0.out (by rw [dr_len]; omega)
    rw [Nat.zero_mul, this, dr_get _ _ hj, List.take_zero]
  case round =>
    obtain ⟨k, cs, hk, rfl, hL, hI, hcl, hT, hbel⟩ := hrel
    have HT : Hid (∀ i j, i ≤ k → j ≤ ys.length → cs[i * W + j]? = some (lv (xs.take i) (ys.take j) : Int)) := hT
    have HI : Hid (IBlk wr g cs) := hI
    have HL : Hid (LBlk wr gl (rowsT g W N (k + 1))) := hL
    have HC : Hid (cs.length = N * W) := hcl
    clear hT hI hL hcl
    by_cases hlt : k < xs.length
    · obtain ⟨r, hr⟩ : ∃ r, xs[k]? = some r := ⟨_, List.getElem?_eq_getElem hlt⟩
      obtain ⟨gx, offx, rfl, hgx, hcx⟩ := (HX.out.below hbel).at hr
      have HTK : Hid (xs.take (k + 1) = xs.take k ++ [r]) := by unfold Hid; rw [List.take_add_one, hr]; rfl
      clear hr
      obtain ⟨m0, hm0⟩ : ∃ m0, m0 = k * W := ⟨_, rfl⟩
      obtain ⟨m1, hm1⟩ : ∃ m1, m1 = (k + 1) * W := ⟨_, rfl⟩
      have HM0 : Hid (m0 = k * W) := hm0
      have HM1 : Hid (m1 = (k + 1) * W) := hm1
      have hm01 : m1 = m0 + W := by rw [hm1, hm0, Nat.add_mul]; omega
      have hmN : m1 + W ≤ N * W := by
        have := Nat.mul_le_mul_right W (show k + 2 ≤ N by have := HN.out; omega)
        rw [hm1]
        rw [Nat.add_mul] at this ⊢
        omega
      have HMN : Hid (m1 + W ≤ N * W) := hmN
      have HM01 : Hid (m1 = m0 + W) := hm01
      obtain ⟨q, hq⟩ : ∃ q, q = k + 1 := ⟨_, rfl⟩
      have HQ : Hid (q = k + 1) := hq
      have hcA : wr.drew.cell? ⟨gl, k, none⟩ = some (.slice (some ⟨g, m0, none⟩) W W) := HL.out.cell (by rw [rowsT_get _ _ _ _ (by have := HN.out; omega), if_pos (by omega), ← HM0.out])
      have hcB : wr.drew.cell? ⟨gl, q, none⟩ = some (.slice (some ⟨g, m1, none⟩) 0 W) := HL.out.cell (by rw [hq, rowsT_get _ _ _ _ (by have := HN.out; omega), if_neg (by omega), ← HM1.out])
      have hwq : IntKind.i64.wrap ((k : Int) + 1) = (q : Int) := by rw [IntKind.wrap_i64]; omega
      have hqN : (q : Int) < (N : Int) := by have := HN.out; omega
      have hkN : (k : Int) < (N : Int) := by have := HN.out; omega
      have HNXT := next_any wr.drew g m1 m0 W W cs (xs.take k) ys r (.slice ady ys.length capy) w.heap.size HI.out (by have := HW.out; omega) (by rw [HC.out]; have := HW.out; have := HMN.out; omega) (fun j hj => by rw [HM0.out]; exact HT.out k j (Nat.le_refl _) hj) (by have := HW.out; omega) (show RunesAt w.heap.size wr.drew _ ys from HY.out.below hbel.drew) hg1 (by omega) (by rw [List.length_take]; omega)
      rw [← HW.out] at HNXT
      have hlen1 : Hid (m1 + (dr (xs.take k ++ [r]) ys).length ≤ cs.length) := by unfold Hid; rw [dr_len, HC.out]; have := HW.out; have := HMN.out; omega
      have hS0 : wr.drew.cell? ⟨gl, k, none⟩ = some (.slice (some ⟨g, m0, none⟩) W W) ∧ wr.drew.cell? ⟨gl, q, none⟩ = some (.slice (some ⟨g, m1, none⟩) 0 W) := ⟨hcA, hcB⟩
      have hgll : gl < wr.drew.heap.size := HL.out.lt
      clear hm0 hm1 hm01 hmN hq hcA hcB
      go_upto_region 6 with (fail)
      refine region_atE (S := fun W' => W'.cell? ⟨gl, k, none⟩ = some (.slice (some ⟨g, m0, none⟩) W W) ∧ W'.cell? ⟨gl, q, none⟩ = some (.slice (some ⟨g, m1, none⟩) 0 W)) 17 16 rfl mixedP ?_
      refine take_atE (i := 0) 30 rfl rfl (by kernel_rfl) (by kernel_rfl) (by kernel_rfl) (by kernel_rfl) (fun _ _ _ h => h) (by rfl) (fun w hSw => by (have hSw2 := id hSw; clear hSw; go_simp; first | done | exact rfl)) (by assumption) ?_
      simp only [List.setIfInBounds_toArray, List.set_cons_zero, List.set_cons_succ]
      refine take_atE (i := 1) 31 rfl rfl (by kernel_rfl) (by kernel_rfl) (by kernel_rfl) (by kernel_rfl) (fun _ _ _ h => h) (by rfl) (fun w hSw => by (have hSw2 := id hSw; clear hSw; go_simp; first | done | exact rfl)) (by assumption) ?_
      simp only [List.setIfInBounds_toArray, List.set_cons_zero, List.set_cons_succ]
      refine take_atE (i := 2) 32 rfl rfl (by kernel_rfl) (by kernel_rfl) (by kernel_rfl) (by kernel_rfl) (fun _ _ _ h => h) (by rfl) (fun w hSw => by (have hSw2 := id hSw; clear hSw; go_simp; first | done | exact rfl)) (by assumption) ?_
      simp only [List.setIfInBounds_toArray, List.set_cons_zero, List.set_cons_succ]
      refine take_atE (i := 3) 33 rfl rfl (by kernel_rfl) (by kernel_rfl) (by kernel_rfl) (by kernel_rfl) (fun _ _ _ h => h) (by rfl) (fun w hSw => by (have hSw2 := id hSw; clear hSw; go_simp; first | done | exact rfl)) (by assumption) ?_
      simp only [List.setIfInBounds_toArray, List.set_cons_zero, List.set_cons_succ]
      refine take_atE (i := 4) 34 rfl rfl (by kernel_rfl) (by kernel_rfl) (by kernel_rfl) (by kernel_rfl) (fun _ _ _ h => h) (by rfl) (fun w hSw => by (have hSw2 := id hSw; clear hSw; go_simp; first | done | exact rfl)) (by assumption) ?_
      simp only [List.setIfInBounds_toArray, List.set_cons_zero, List.set_cons_succ]
      refine take_atE (i := 5) 35 rfl rfl (by kernel_rfl) (by kernel_rfl) (by kernel_rfl) (by kernel_rfl) (fun _ _ _ h => h) (by rfl) (fun w hSw => by (have hSw2 := id hSw; clear hSw; go_simp; first | done | exact rfl)) (by assumption) ?_
      simp only [List.setIfInBounds_toArray, List.set_cons_zero, List.set_cons_succ]
      refine take_atE (i := 6) 36 rfl rfl (by kernel_rfl) (by kernel_rfl) (by kernel_rfl) (by kernel_rfl) (fun _ _ _ h => h) (by rfl) (fun w hSw => by (have hSw2 := id hSw; clear hSw; go_simp; first | done | exact rfl)) (by assumption) ?_
      simp only [List.setIfInBounds_toArray, List.set_cons_zero, List.set_cons_succ]
      refine take_atE (i := 7) 37 rfl rfl (by kernel_rfl) (by kernel_rfl) (by kernel_rfl) (by kernel_rfl) (fun _ _ _ h => h) (by rfl) (fun w hSw => by (have hSw2 := id hSw; clear hSw; go_simp; first | done | exact rfl)) (by assumption) ?_
      simp only [List.setIfInBounds_toArray, List.set_cons_zero, List.set_cons_succ]
      refine take_atE (i := 8) 38 rfl rfl (by kernel_rfl) (by kernel_rfl) (by kernel_rfl) (by kernel_rfl) (fun _ _ _ h => h) (by rfl) (fun w hSw => by (have hSw2 := id hSw; clear hSw; go_simp; first | done | exact rfl)) (by assumption) ?_
      simp only [List.setIfInBounds_toArray, List.set_cons_zero, List.set_cons_succ]
      refine take_atE (i := 9) 39 rfl rfl (by kernel_rfl) (by kernel_rfl) (by kernel_rfl) (by kernel_rfl) (fun _ _ _ h => h) (by rfl) (fun w hSw => by (have hSw2 := id hSw; clear hSw; go_simp; first | done | exact rfl)) (by assumption) ?_
      simp only [List.setIfInBounds_toArray, List.set_cons_zero, List.set_cons_succ]
      refine take_atE (i := 10) 40 rfl rfl (by kernel_rfl) (by kernel_rfl) (by kernel_rfl) (by kernel_rfl) (fun _ _ _ h => h) (by rfl) (fun w hSw => by (have hSw2 := id hSw; clear hSw; go_simp; first | done | exact rfl)) (by assumption) ?_
      simp only [List.setIfInBounds_toArray, List.set_cons_zero, List.set_cons_succ]
      refine take_atE (i := 11) 41 rfl rfl (by kernel_rfl) (by kernel_rfl) (by kernel_rfl) (by kernel_rfl) (fun _ _ _ h => h) (by rfl) (fun w hSw => by (have hSw2 := id hSw; clear hSw; go_simp; first | done | exact rfl)) (by assumption) ?_
      simp only [List.setIfInBounds_toArray, List.set_cons_zero, List.set_cons_succ]
      refine take_atE (i := 12) 42 rfl rfl (by kernel_rfl) (by kernel_rfl) (by kernel_rfl) (by kernel_rfl) (fun _ _ _ h => h) (by rfl) (fun w hSw => by (have hSw2 := id hSw; clear hSw; go_simp; first | done | exact rfl)) (by assumption) ?_
      simp only [List.setIfInBounds_toArray, List.set_cons_zero, List.set_cons_succ]
      refine take_atE (i := 13) 43 rfl rfl (by kernel_rfl) (by kernel_rfl) (by kernel_rfl) (by kernel_rfl) (fun _ _ _ h => h) (by rfl) (fun w hSw => by (have hSw2 := id hSw; clear hSw; go_simp; first | done | exact rfl)) (by assumption) ?_
      simp only [List.setIfInBounds_toArray, List.set_cons_zero, List.set_cons_succ]
      refine one_callE (i := 14) (w0 := wr.drew) 44 22 #[.slice (some ⟨g, m1, none⟩) 0 W, .slice (some ⟨g, m0, none⟩) W W, .int .i32 r, .slice ady ys.length capy] (by kernel_rfl) rfl rfl (by rfl) (by kernel_rfl) ?_
      refine HNXT.mono ?_
      rintro e w5 ⟨rfl, hI5, hb5⟩
      have hL5 : LBlk w5 gl (rowsT g W N (k + 1)) := LBlk.but (w := wr.drew) HL.out hb5 hgne
      have hS5 : w5.cell? ⟨gl, k, none⟩ = some (.slice (some ⟨g, m0, none⟩) W W) ∧ w5.cell? ⟨gl, q, none⟩ = some (.slice (some ⟨g, m1, none⟩) 0 W) := by
        have e := hb5.block gl hgll hgne
        exact ⟨(World.cell?_of_block (a := ⟨gl, k, none⟩) e).trans hS0.1, (World.cell?_of_block (a := ⟨gl, q, none⟩) e).trans hS0.2⟩
      refine ⟨_, rfl, hS5, ?_⟩
      simp only [List.setIfInBounds_toArray, List.set_cons_zero, List.set_cons_succ]
      refine one_valueE (i := 15) (v := .pointer (some ⟨gl, q, none⟩)) (w' := w5) 45 (by kernel_rfl) rfl rfl (by rfl) (by go_simp; first | done | exact rfl) hS5 ?_
      simp only [List.setIfInBounds_toArray, List.set_cons_zero, List.set_cons_succ]
      have hcq := hS5.2
      have hfq : w5.frozen? ⟨gl, q, none⟩ = false := hL5.frozen q
      refine last_skipE (w' := w5.setCell ⟨gl, q, none⟩ (.slice (some ⟨g, m1, none⟩) W W)) (by kernel_rfl) rfl rfl (by rfl) (by go_simp; first | done | exact rfl) (by kernel_rfl) ?_
      have HL6 : Hid (LBlk (w5.setCell ⟨gl, q, none⟩ (.slice (some ⟨g, m1, none⟩) W W)) gl (rowsT g W N (k + 1 + 1))) := by
        have := hL5.set (k + 1) (.slice (some ⟨g, (k + 1) * W, none⟩) W W)
        rw [rowsT_set, ← HM1.out, ← HQ.out] at this
        rw [HQ.out] at this ⊢
        exact this
      have HI6 : Hid (IBlk (w5.setCell ⟨gl, q, none⟩ (.slice (some ⟨g, m1, none⟩) W W)) g (lay cs m1 (dr (xs.take k ++ [r]) ys))) := hI5.same (Below.heap_setCell _ _ _ _ (fun e => hgne e.symm))
      have HB6 : Hid (Below w.heap.size w (w5.setCell ⟨gl, q, none⟩ (.slice (some ⟨g, m1, none⟩) W W))) := (hbel.drew.trans (hb5.below hg1 hbel.size)).setCell hg2 _
      clear hI5 hL5 hS5 hS0 HNXT hcq hfq hb5
      go_wp2
      go_roundw
      case rel =>
        refine ⟨k + 1, _, by omega, by rw [HQ.out], HL6.out, HI6.out, by rw [lay_len hlen1.out]; exact HC.out, fun i j hi hj => ?_, HB6.out⟩
        by_cases hik : i ≤ k
        · have h1 := Nat.mul_le_mul_right W hik
          rw [lay_out hlen1.out (.inl (by have := HM01.out; have := HM0.out; have := HW.out; omega))]
          exact HT.out i j hik hj
        · obtain rfl : i = k + 1 := by omega
          rw [← HM1.out, lay_in hlen1.out (by rw [dr_len]; omega), dr_get _ _ hj, HTK.out]
      case measure => simp [intOf]; have := HQ.out; omega
    · obtain rfl : k = xs.length := by omega
      go_wp2
      go_ret
      refine ⟨g, gl, rfl, ⟨fun i hi => ?_, fun i j hi hj => ?_⟩, hbel⟩
      · rw [← HW.out]
        exact HL.out.cell (by rw [rowsT_get _ _ _ _ (by have := HN.out; omega), if_pos (by omega)])
      · rw [← HW.out]
        exact HI.out.cell (HT.out i j hi hj)
end Go.Proofs.YtjfbildaaobfpaaDoor
