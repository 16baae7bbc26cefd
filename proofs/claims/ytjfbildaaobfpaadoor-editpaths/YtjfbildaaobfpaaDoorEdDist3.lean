/- edit.Distance. -/
import Derived.Test.YtjfbildaaobfpaaDoorEdDist2
namespace Go.Proofs.YtjfbildaaobfpaaDoor
open Go.RowKit Nums Ed
set_option maxRecDepth 100000

theorem dsV_none : dsV none = .tuple #[.int .i64 0, .bool false] := rfl
theorem dsV_some (n : Nat) : dsV (some n) = .tuple #[.int .i64 (n : Int), .bool true] := rfl

set_option maxHeartbeats 1000000 in
theorem Distance_any (a b : ByteArray) (w : World) (ht : Tabs w) (ha : a.size ≤ 9223372036854775807) (hb : b.size ≤ 9223372036854775807) :
    Calls Tryd.prog 13 #[.string a, .string b] w fun e w' => e = .returned (dsV (dsE a.data.toList b.data.toList)) ∧ Below w.heap.size w w' := by
  go_enter Tryd.func13, Tryd.ntmps13
  go_upto_region 2 with (go_at_call 19; refine (both_any a b _ ht ha hb).mono ?_; rintro e w1 ⟨vx, vy, f, rfl, hbo⟩)
  obtain ⟨hb1, ⟨rfl, hno⟩ | ⟨rfl, xs, ys, h1, h2, m1, m2⟩⟩ := hbo
  · have HF : Hid (dsE a.data.toList b.data.toList = none) := hno
    clear hno
    go_wp2
    go_ret2
    exact ⟨by rw [HF.out]; rfl, hb1⟩
  have HF : Hid (dsE a.data.toList b.data.toList = some (lv xs ys)) := dsE_some h1 h2
  have hxl := (rsE_out h1).2
  have hyl := (rsE_out h2).2
  clear h1 h2
  have HX : Hid (RunesAt w1.heap.size w1 vx xs) := m1.runes
  have HY : Hid (RunesAt w1.heap.size w1 vy ys) := m2.runes
  clear m1 m2
  obtain ⟨adx, capx, rfl⟩ := HX.out.form
  obtain ⟨ady, capy, rfl⟩ := HY.out.form
  obtain ⟨W, hW⟩ : ∃ W, W = ys.length + 1 := ⟨_, rfl⟩
  have hwW : IntKind.i64.wrap ((ys.length : Int) + 1) = (W : Int) := by rw [IntKind.wrap_i64]; omega
  have HW : Hid (W = ys.length + 1) := hW
  have hW1 : 1 ≤ W := by omega
  have hW2 : W ≤ 2000 := by omega
  clear hW
  go_upto_region 5 with (go_at_call 20; refine (rows_any 2 W _ (by omega) hW1 (by omega) (by omega)).mono ?_; rintro e w2 ⟨g, gl, rfl, hL, hI, hb2, hg1, hg2, hgne⟩)
  have hL0 : w2.drew.cell? ⟨gl, 0, none⟩ = some (.slice (some ⟨g, 0, none⟩) 0 W) := hL.cell (by rw [rowsV_get _ _ _ _ (by omega)]; simp)
  have hL1 : w2.drew.cell? ⟨gl, 1, none⟩ = some (.slice (some ⟨g, W, none⟩) 0 W) := hL.cell (by rw [rowsV_get _ _ _ _ (by omega)]; simp)
  have hS0 : w2.drew.cell? ⟨gl, 0, none⟩ = some (.slice (some ⟨g, 0, none⟩) 0 W) ∧ w2.drew.cell? ⟨gl, 1, none⟩ = some (.slice (some ⟨g, W, none⟩) 0 W) := ⟨hL0, hL1⟩
  have HST := start_any w2.drew g 0 W _ ys (show IBlk w2.drew g _ from hI) (by have := HW.out; omega) (by simp; have := HW.out; omega) (by omega)
  have hgll : gl < w2.drew.heap.size := hL.lt
  have hgl2 : g < w2.drew.heap.size := hI.lt
  refine region_at (S := fun W' => W'.cell? ⟨gl, 0, none⟩ = some (.slice (some ⟨g, 0, none⟩) 0 W) ∧ W'.cell? ⟨gl, 1, none⟩ = some (.slice (some ⟨g, W, none⟩) 0 W)) 11 rfl mixedP hS0 (fun _ => ?_)
  refine take_at (i := 0) 27 rfl rfl (by kernel_rfl) (by kernel_rfl) (by kernel_rfl) (fun _ _ _ h => h) (by rfl) (fun w hSw => by (have hSw2 := id hSw; clear hSw; go_simp; first | done | exact rfl)) (by assumption) ?_
  simp only [List.setIfInBounds_toArray, List.set_cons_zero, List.set_cons_succ]
  refine take_at (i := 1) 28 rfl rfl (by kernel_rfl) (by kernel_rfl) (by kernel_rfl) (fun _ _ _ h => h) (by rfl) (fun w hSw => by (have hSw2 := id hSw; clear hSw; go_simp; first | done | exact rfl)) (by assumption) ?_
  simp only [List.setIfInBounds_toArray, List.set_cons_zero, List.set_cons_succ]
  refine take_at (i := 2) 29 rfl rfl (by kernel_rfl) (by kernel_rfl) (by kernel_rfl) (fun _ _ _ h => h) (by rfl) (fun w hSw => by (have hSw2 := id hSw; clear hSw; go_simp; first | done | exact rfl)) (by assumption) ?_
  simp only [List.setIfInBounds_toArray, List.set_cons_zero, List.set_cons_succ]
  refine take_at (i := 3) 30 rfl rfl (by kernel_rfl) (by kernel_rfl) (by kernel_rfl) (fun _ _ _ h => h) (by rfl) (fun w hSw => by (have hSw2 := id hSw; clear hSw; go_simp; first | done | exact rfl)) (by assumption) ?_
  simp only [List.setIfInBounds_toArray, List.set_cons_zero, List.set_cons_succ]
  refine take_at (i := 4) 31 rfl rfl (by kernel_rfl) (by kernel_rfl) (by kernel_rfl) (fun _ _ _ h => h) (by rfl) (fun w hSw => by (have hSw2 := id hSw; clear hSw; go_simp; first | done | exact rfl)) (by assumption) ?_
  simp only [List.setIfInBounds_toArray, List.set_cons_zero, List.set_cons_succ]
  refine take_at (i := 6) 33 rfl rfl (by kernel_rfl) (by kernel_rfl) (by kernel_rfl) (fun _ _ _ h => h) (by rfl) (fun w hSw => by (have hSw2 := id hSw; clear hSw; go_simp; first | done | exact rfl)) (by assumption) ?_
  simp only [List.setIfInBounds_toArray, List.set_cons_zero, List.set_cons_succ]
  refine take_at (i := 7) 34 rfl rfl (by kernel_rfl) (by kernel_rfl) (by kernel_rfl) (fun _ _ _ h => h) (by rfl) (fun w hSw => by (have hSw2 := id hSw; clear hSw; go_simp; first | done | exact rfl)) (by assumption) ?_
  simp only [List.setIfInBounds_toArray, List.set_cons_zero, List.set_cons_succ]
  refine take_at (i := 8) 35 rfl rfl (by kernel_rfl) (by kernel_rfl) (by kernel_rfl) (fun _ _ _ h => h) (by rfl) (fun w hSw => by (have hSw2 := id hSw; clear hSw; go_simp; first | done | exact rfl)) (by assumption) ?_
  simp only [List.setIfInBounds_toArray, List.set_cons_zero, List.set_cons_succ]
  refine one_call (i := 5) (w0 := w2.drew) 32 21 #[.slice (some ⟨g, 0, none⟩) 0 W, .int .i64 ys.length] (by kernel_rfl) rfl rfl (by rfl) (by kernel_rfl) ?_
  refine HST.mono ?_
  rintro e w3 ⟨rfl, hI3, hb3⟩
  have hS3 : w3.cell? ⟨gl, 0, none⟩ = some (.slice (some ⟨g, 0, none⟩) 0 W) ∧ w3.cell? ⟨gl, 1, none⟩ = some (.slice (some ⟨g, W, none⟩) 0 W) := by
    have e := hb3.block gl hgll hgne
    exact ⟨(World.cell?_of_block (a := ⟨gl, 0, none⟩) e).trans hS0.1, (World.cell?_of_block (a := ⟨gl, 1, none⟩) e).trans hS0.2⟩
  refine ⟨_, rfl, hS3, fun _ => ?_⟩
  simp only [List.setIfInBounds_toArray, List.set_cons_zero, List.set_cons_succ]
  refine one_value (i := 9) (v := .slice (some ⟨g, 0, none⟩) (ys.length + 1) W) (w' := w3) 10 (by kernel_rfl) rfl rfl (by rfl) (by kernel_rfl) hS3 (fun _ => ?_)
  simp only [List.setIfInBounds_toArray, List.set_cons_zero, List.set_cons_succ]
  refine one_value (i := 10) (v := .slice (some ⟨g, W, none⟩) 0 W) (w' := w3) 11 (by kernel_rfl) rfl rfl (by rfl) (by kernel_rfl) hS3 (fun _ => ?_)
  simp only [List.setIfInBounds_toArray, List.set_cons_zero, List.set_cons_succ]
  refine wpAnyH_done (by kernel_rfl) ?_ _
  have hE3 : Below w1.heap.size w1 w3 := by
    have h := hb3.below (B := w1.heap.size) hg1 hb2.size
    exact ⟨h.os.trans hb2.os, h.tape.trans hb2.tape, h.output.trans hb2.output, Nat.le_trans hb2.size h.size, fun k hk => (h.block k hk).trans (hb2.block k hk)⟩
  have HI3 : Hid (IBlk w3 g (lay (List.replicate (2 * W) 0) 0 (dr [] ys))) := hI3
  clear hS0 hS3 hL0 hL1 HST hI3 hL hI hb3 hb2 hgll hgl2
  go_wp2
  go_loopw [10, 11, 38] (fun v u i wr => ∃ (k fa fb q : Nat) (cs : List Int), k ≤ xs.length ∧ i = .int .i64 k ∧ v = .slice (some ⟨g, fa, none⟩) (ys.length + 1) W ∧ u = .slice (some ⟨g, fb, none⟩) q W ∧ ((fa = 0 ∧ fb = W) ∨ (fa = W ∧ fb = 0)) ∧ cs.length = 2 * W ∧ IBlk wr g cs ∧ (∀ j, j ≤ ys.length → cs[fa + j]? = some (lv (xs.take k) (ys.take j) : Int)) ∧ Below w1.heap.size w1 wr) (fun _ _ i _ => xs.length - (intOf i).toNat)
  case atStart =>
    have hlen : 0 + (dr [] ys).length ≤ (List.replicate (2 * W) (0 : Int)).length := by rw [dr_len, List.length_replicate]; have := HW.out; omega
    refine ⟨0, 0, W, 0, _, Nat.zero_le _, rfl, rfl, rfl, .inl ⟨rfl, rfl⟩, ?_, HI3.out, fun j hj => ?_, hE3⟩
    · rw [lay_len hlen, List.length_replicate]
    · rw [lay_in hlen (by rw [dr_len]; omega), dr_get _ _ hj]; simp
  case round =>
    obtain ⟨k, fa, fb, q, cs, hk, rfl, rfl, rfl, hfab, hcl, hI, hA, hbel⟩ := hrel
    have HI : Hid (IBlk wr g cs) := hI
    have HA : Hid (∀ j, j ≤ ys.length → cs[fa + j]? = some (lv (xs.take k) (ys.take j) : Int)) := hA
    have HC : Hid (cs.length = 2 * W) := hcl
    have HAB : Hid ((fa = 0 ∧ fb = W) ∨ (fa = W ∧ fb = 0)) := hfab
    clear hI hA hcl hfab
    by_cases hlt : k < xs.length
    · obtain ⟨r, hr⟩ : ∃ r, xs[k]? = some r := ⟨_, List.getElem?_eq_getElem hlt⟩
      obtain ⟨gx, offx, rfl, hgx, hcx⟩ := (HX.out.below hbel).at hr
      have HT : Hid (xs.take (k + 1) = xs.take k ++ [r]) := by unfold Hid; rw [List.take_add_one, hr]; rfl
      clear hr
      go_wp2_with (go_at_call 22; refine (next_any wr g fb fa W W cs (xs.take k) ys r _ w1.heap.size HI.out (by have := HW.out; omega) (by have := HC.out; have := HW.out; rcases HAB.out with h | h <;> omega) HA.out (by have := HW.out; rcases HAB.out with h | h <;> omega) (HY.out.below hbel) hg1 (by omega) (by rw [List.length_take]; omega)).mono ?_; rintro e w4 ⟨rfl, hI4, hb4⟩)
      have hlen : Hid (fb + (dr (xs.take k ++ [r]) ys).length ≤ cs.length) := by unfold Hid; rw [dr_len, HC.out]; have := HW.out; rcases HAB.out with h | h <;> omega
      go_roundw
      case rel =>
        refine ⟨k + 1, fb, fa, _, _, by omega, by go_num, rfl, rfl, by rcases HAB.out with h | h; exact .inr ⟨h.2, h.1⟩; exact .inl ⟨h.2, h.1⟩, ?_, hI4, fun j hj => ?_, ?_⟩
        · rw [lay_len hlen.out]; exact HC.out
        · rw [lay_in hlen.out (by rw [dr_len]; omega), dr_get _ _ hj, HT.out]
        · exact hbel.trans (hb4.below hg1 hbel.size)
      case measure => simp [intOf]; omega
    · obtain rfl : k = xs.length := by omega
      have hc : wr.cell? ⟨g, fa + ys.length, none⟩ = some (.int .i64 (lv xs ys : Int)) := by
        have := HA.out ys.length (Nat.le_refl _)
        rw [List.take_of_length_le (Nat.le_refl _), List.take_of_length_le (Nat.le_refl _)] at this
        exact HI.out.cell this
      go_wp2
      go_ret2
      exact ⟨by rw [HF.out]; rfl, hb1.trans (hbel.mono hb1.size)⟩
end Go.Proofs.YtjfbildaaobfpaaDoor
