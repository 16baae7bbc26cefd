/- LevAsks: the walk. -/
import Derived.Test.YtfhmamalanloaaaDoorLvStarts
namespace Go.Proofs.YtfhmamalanloaaaDoor
open Go.RowKit Nums Ed Lv
set_option maxRecDepth 100000

/-- Is one of the first k numbers near? -/
def someB (d : Nat) (s : List Nat) (k : Nat) : Bool := (List.range k).any fun j => decide (min (s.getD j 0) (d + 1) ≤ d)
theorem someB_next (d : Nat) (s : List Nat) (k : Nat) : someB d s (k + 1) = (someB d s k || decide (min (s.getD k 0) (d + 1) ≤ d)) := by
  simp [someB, List.range_succ]
theorem someB_end {n d : Nat} {s : List Nat} (hn : n ≤ 24) : someB d s (n + 1) = aliveB n d s := by
  cases e : aliveB n d s with
  | false =>
    have := (alive_not hn).1 e
    unfold someB
    rw [List.any_eq_false]
    intro j hj
    have h1 := List.mem_range.1 hj
    have := this j (by omega)
    simp only [decide_eq_true_eq]
    omega
  | true =>
    unfold someB
    rw [List.any_eq_true]
    by_cases h : ∃ j, j ≤ n ∧ s.getD j 0 ≤ d
    · obtain ⟨j, hj, h⟩ := h
      exact ⟨j, List.mem_range.2 (by omega), by simp only [decide_eq_true_eq]; omega⟩
    · have : aliveB n d s = false := (alive_not hn).2 fun j hj => by
        by_cases h2 : s.getD j 0 ≤ d
        · exact absurd ⟨j, hj, h2⟩ h
        · omega
      rw [this] at e; cases e
attribute [local go_sem ↓] exec_alloc_R exec_box_R exec_load_R exec_store_R
attribute [local go_sem] rV_cells
set_option maxHeartbeats 2000000 in
theorem asks_walk (s : ByteArray) (e : Int) (r : List Nat) (w : World) (ht : Tabs w) (hm : s.size ≤ 1000000000) (hrl : r.length = 25) (hrb : ∀ x ∈ r, x < 256) :
    Calls Tryd.prog 8 #[.string s, .int .i64 e, rV r] w fun x w' => x = .returned (.bool true) ∧ Below w.heap.size w w' := by
  obtain ⟨w0, hw0⟩ : ∃ w0, w.alloc (.cells (rC r) 32) = w0 := ⟨_, rfl⟩
  have A0 : Hid (RAt w0 w.heap.size r) := hw0 ▸ RAt.new w _
  have B0 : Below w.heap.size w w0 := hw0 ▸ (Below.refl _ w).alloc (Nat.le_refl _) _
  have HW : Hid (w.alloc (.cells (rC r) 32) = w0) := hw0
  have h0 := (Acc.refl ht).step B0
  have hs0 := A0.out.lt
  clear hw0 B0
  go_enter Tryd.func8, Tryd.ntmps8
  go_upto_region 1 with fail
  rw [HW.out]
  go_upto_region 2 with (go_at_call 14; refine (made_acc h0 s e hm).mono ?_; rintro x w1 ⟨v, u, f, rfl, hb1, h1, hcase⟩)
  rcases hcase with ⟨hr, rfl, rfl⟩ | ⟨hr, rfl, p, xs, d, rfl, hx, hd, hl, hu⟩
  · have HR : Hid (rightB s.data.toList e = false) := hr
    clear hr
    go_wp2_with (first
      | (go_at_call 13; refine (alive_acc (by assumption)).mono ?_; rintro x w2 ⟨rfl, h2⟩)
      | (go_at_call 12; refine (Right_acc (by assumption) s e (by omega)).mono ?_; rintro x w3 ⟨rfl, h3⟩; rw [HR.out]))
    go_ret
    exact ⟨rfl, h3.bel⟩
  subst hd
  have hn := hl.len
  have hd3 := hl.few
  obtain ⟨ad, cap, rfl⟩ := hu.1.form
  have A1 := A0.out.below (by omega) hb1
  have hld1 := loadR_at A1.range hrl
  have hs1 := hb1.size
  clear hr hx hu
  go_upto_region 5 with (go_at_call 19; refine (Dist_any p xs d _ _ hl hrl).mono ?_; rintro x w2 ⟨rfl, hb2⟩)
  have A2 : Hid (RAt w2 w.heap.size r) := A1.below (by omega) hb2
  have hld2 := loadR_at A2.out.range hrl
  have L2 : Hid (LevAt w2 p xs d) := hl.below hb2
  have h2 := h1.step hb2
  have hs2 := hb2.size
  have HAT := At_any r xs.length d w2 hrl hrb (by omega) hd3
  obtain ⟨y, hy⟩ : ∃ y, r.getD xs.length 0 = y := ⟨_, rfl⟩
  have HY : Hid (r.getD xs.length 0 = y) := hy
  obtain ⟨z, hz⟩ : ∃ z, min y (d + 1) = z := ⟨_, rfl⟩
  have HZ : Hid (min y (d + 1) = z) := hz
  rw [hy, hz] at HAT
  clear hld1 A1 hl hb2 h1 hy hz
  go_upto_region 6 with (go_at_call 21; refine HAT.mono ?_; rintro x w3 ⟨rfl, hb3⟩)
  have A3 : Hid (RAt w3 w.heap.size r) := A2.out.below (by omega) hb3
  have L3 : Hid (LevAt w3 p xs d) := L2.out.below hb3
  have H3 : Hid (Acc w w3) := h2.step hb3
  have hs3 := hb3.size
  clear HAT hld2 A2 L2 h2 hb3
  go_wp2_with fail
  go_loopw [13, 14] (fun b v wr => ∃ k : Nat, v = .int .i64 k ∧ k ≤ xs.length + 1 ∧ b = .bool (someB d r k) ∧ RAt wr w.heap.size r ∧ Below w3.heap.size w3 wr) (fun _ v _ => xs.length + 1 - (intOf v).toNat)
  case atStart => exact ⟨0, rfl, by omega, rfl, A3.out, Below.refl _ _⟩
  case round =>
    obtain ⟨k, rfl, hk, rfl, hA, hB⟩ := hrel
    have HA : Hid (RAt wr w.heap.size r) := hA
    have HB : Hid (Below w3.heap.size w3 wr) := hB
    have hwr : w.heap.size < wr.heap.size := hA.lt
    have hld := loadR_at hA.range hrl
    have hsr := hB.size
    by_cases hk8 : k ≤ xs.length
    · have HAT := At_any r k d wr hrl hrb (by omega) hd3
      obtain ⟨y, hy⟩ : ∃ y, min (r.getD k 0) (d + 1) = y := ⟨_, rfl⟩
      have HNX : Hid (someB d r (k + 1) = (someB d r k || decide (y ≤ d))) := by unfold Hid; rw [someB_next, hy]
      rw [hy] at HAT
      obtain ⟨b, hb⟩ : ∃ b, someB d r k = b := ⟨_, rfl⟩
      rw [hb] at HNX ⊢
      clear hA hB hy hb
      cases b
      · go_wp2_with (go_at_call 21; refine HAT.mono ?_; rintro x w4 ⟨rfl, hb4⟩)
        go_roundw
        case rel => exact ⟨k + 1, by go_num, by omega, by rw [HNX.out]; simp, HA.out.below (by omega) hb4, HB.out.trans (hb4.mono (by omega))⟩
        case measure => simp [intOf]; omega
      · go_wp2_with fail
        go_roundw
        case rel => exact ⟨k + 1, by go_num, by omega, by rw [HNX.out]; simp, HA.out, HB.out⟩
        case measure => simp [intOf]; omega
    · obtain rfl : k = xs.length + 1 := by omega
      rw [someB_end hn]
      have HLR : Hid (LevAt wr p xs d) := L3.out.below hB
      have HWR : Hid (Acc w wr) := H3.out.step hB
      have HDN : Hid (distN xs.length d r = if y ≤ d then y else 0) := by unfold Hid distN; rw [HY.out]
      have HDB : Hid (distB xs.length d r = decide (y ≤ d)) := by unfold Hid distB; rw [HY.out]
      have hkk : ¬ ((xs.length + 1 : Nat) : Int) ≤ (xs.length : Int) := by omega
      clear hA hB
      by_cases hyd : y ≤ d
      · obtain rfl : y = z := by have := HZ.out; omega
        rw [HDN.out, HDB.out, if_pos hyd, decide_eq_true hyd]
        clear HDN HDB
        have hyd2 : (y : Int) ≤ (d : Int) := by omega
        go_wp2_with (first
          | (go_at_call 13; refine (alive_any _ HWR.out.tabs).mono ?_; rintro x w7 ⟨rfl, hb7⟩; have hl7 := HLR.out.below hb7; have hld7 := loadR_at (HA.out.below (by omega) hb7).range hrl; have h7 := HWR.out.step hb7)
          | (go_at_call 22; refine (Alive_any p xs d _ _ hl7 hrl).mono ?_; rintro x w8 ⟨rfl, hb8⟩; have h8 := h7.step hb8))
        go_ret
        exact ⟨ret_bool (by first | (simp; done) | (simp; omega)), h8.bel⟩
      · have hzd : ¬ (z : Int) ≤ (d : Int) := by have := HZ.out; omega
        rw [HDN.out, HDB.out, if_neg hyd, decide_eq_false hyd]
        clear HDN HDB
        go_wp2_with (first
          | (go_at_call 13; refine (alive_any _ HWR.out.tabs).mono ?_; rintro x w7 ⟨rfl, hb7⟩; have hl7 := HLR.out.below hb7; have hld7 := loadR_at (HA.out.below (by omega) hb7).range hrl; have h7 := HWR.out.step hb7)
          | (go_at_call 22; refine (Alive_any p xs d _ _ hl7 hrl).mono ?_; rintro x w8 ⟨rfl, hb8⟩; have h8 := h7.step hb8))
        go_ret
        exact ⟨ret_bool (by first | (simp; done) | (simp; omega)), h8.bel⟩
end Go.Proofs.YtfhmamalanloaaaDoor
