/- BestSelects, BestTwice: the laws' own walks. -/
import Derived.Test.YtmpfcdffpjocnaaBtAlive
import Derived.Test.YtmpfcdffpjocnaaBtRef
namespace Go.Proofs.Ytmpfcdffpjocnaa
open Go.RowKit Go.Lib Nums Pm
set_option maxRecDepth 100000
namespace Bt
theorem best_small (k : Int) (l : List Mt) : (bestF (kk k) l).length ≤ 64 := by rw [bestF_len]; unfold kk; omega
set_option maxHeartbeats 1000000 in
theorem selects_walk (v : Value) (k : Int) (w : World) (l : List Mt) (h : MRow w v l) (hs : ∀ x ∈ l, SmM x) (hl : l.length ≤ 4398046511104) (_ : -9223372036854775808 ≤ k ∧ k ≤ 9223372036854775807) :
    Calls Try.prog 5 #[v, .int .i64 k] w fun e w' => e = .returned (.bool true) ∧ Below w.heap.size w w' := by
  have HROW : Hid (MRow w v l) := h
  have HSM : Hid (∀ x ∈ l, SmM x) := hs
  have HLL : Hid (l.length ≤ 4398046511104) := hl
  obtain ⟨L, hL⟩ : ∃ L, bestF (kk k) l = L := ⟨_, rfl⟩
  have HL : Hid (bestF (kk k) l = L) := hL
  have HLS : Hid (L.length < 549755813888) := by have := best_small k l; rw [hL] at this; show L.length < _; omega
  clear h hs hl hL
  go_enter Try.func5, Try.ntmps5
  go_wp2_with (first
    | (go_at_call 10; refine (alive_any w).mono ?_; rintro e w1 ⟨rfl, hb1⟩; have HB1 : Hid (Below w.heap.size w w1) := hb1; clear hb1)
    | (go_at_call 14; refine (Select_any w1 _ l k (HROW.out.below HB1.out) (by have := HLL.out; omega)).mono ?_; rintro e w2 ⟨v2, rfl, hg2, hb2⟩; rw [HL.out] at hg2; have HR2 : Hid (MRow w2 v2 L) := GOwn.reads_m hg2; have HB2 : Hid (Below w.heap.size w w2) := HB1.out.trans (hb2.mono HB1.out.size); clear hb2 hg2)
    | (go_at_call 15; refine (refBest_any w2 _ l k (HROW.out.below HB2.out) HSM.out HLL.out).mono ?_; rintro e w3 ⟨v3, rfl, hg3, hb3⟩; rw [HL.out] at hg3; have HR3 : Hid (MRow w3 v3 L) := GOwn.reads_m hg3; have HR23 : Hid (MRow w3 v2 L) := HR2.out.below hb3; have HB3 : Hid (Below w.heap.size w w3) := HB2.out.trans (hb3.mono HB2.out.size); clear hb3 hg3)
    | (go_at_call 13; refine (same12_any w3 v2 v3 L HR23.out HR3.out HLS.out).mono ?_; rintro e w4 ⟨rfl, q, hq⟩; have HB4 : Hid (Below w.heap.size w w4) := (by rw [hq]; exact belowN HB3.out q); clear hq))
  go_ret
  exact ⟨rfl, HB4.out⟩
/-- What is selected once more. -/
theorem best_again (k : Int) (l : List Mt) : bestF (kk k) (bestF (kk k) l) = bestF (kk k) l := by
  rw [bestF_isort (kk k) (bestF (kk k) l), isort_self (bestF_srt _ _), List.take_of_length_le (by rw [bestF_len]; omega)]
theorem best_fewer (k f : Int) (l : List Mt) (h0 : 0 ≤ f) (hf : f.toNat ≤ (bestF (kk k) l).length) : bestF (kk f) l = (bestF (kk k) l).take f.toNat := by
  have h64 := best_small k l
  have hk : (bestF (kk k) l).length ≤ kk k := by rw [bestF_len]; omega
  have e : kk f = f.toNat := by unfold kk; omega
  rw [bestF_isort, bestF_isort, e, List.take_take, Nat.min_eq_left (by omega)]
theorem best_mem {k : Nat} {l : List Mt} {x : Mt} (h : x ∈ bestF k l) : x ∈ l := by
  rw [bestF_isort] at h
  exact (isort_perm l).mem_iff.1 (List.mem_of_mem_take h)
set_option maxHeartbeats 2000000 in
theorem twice_walk (v : Value) (k f : Int) (w : World) (l : List Mt) (h : MRow w v l) (hs : ∀ x ∈ l, SmM x) (hl : l.length ≤ 4398046511104) (_ : -9223372036854775808 ≤ k ∧ k ≤ 9223372036854775807) (_ : -9223372036854775808 ≤ f ∧ f ≤ 9223372036854775807) :
    Calls Try.prog 9 #[v, .int .i64 k, .int .i64 f] w fun e w' => e = .returned (.bool true) ∧ Below w.heap.size w w' := by
  have HROW : Hid (MRow w v l) := h
  have HSM : Hid (∀ x ∈ l, SmM x) := hs
  have HLL : Hid (l.length ≤ 4398046511104) := hl
  obtain ⟨L, hL⟩ : ∃ L, bestF (kk k) l = L := ⟨_, rfl⟩
  have HL : Hid (bestF (kk k) l = L) := hL
  have HL2 : Hid (bestF (kk k) L = L) := by have := best_again k l; rw [hL] at this; exact this
  have HFEW : Hid (∀ fn : Nat, fn ≤ L.length → bestF (kk (fn : Int)) l = L.take fn) := fun fn hfn => by have := best_fewer k fn l (by omega) (by rw [hL]; simpa using hfn); rw [hL] at this; simpa using this
  have HLS : Hid (L.length ≤ 64) := by have := best_small k l; rw [hL] at this; exact this
  clear h hs hl hL
  go_enter Try.func9, Try.ntmps9
  go_upto_region 2 with (go_at_call 14; refine (Select_any w v l k HROW.out (by have := HLL.out; omega)).mono ?_; rintro e w1 ⟨v1, rfl, hg1, hb1⟩; rw [HL.out] at hg1; have HG1 : Hid (GOwn 23 3 w.heap.size w1 v1 (L.map cellsM)) := hg1; have HB1 : Hid (Below w.heap.size w w1) := hb1; clear hb1 hg1)
  obtain ⟨ad, cap, hv1, hcap⟩ := HG1.out.shape
  rw [List.length_map] at hv1 hcap
  obtain ⟨n, hn⟩ : ∃ n, L.length = n := ⟨_, rfl⟩
  have HN : Hid (L.length = n) := hn
  rw [hn] at hv1 hcap
  subst hv1
  clear hn
  go_upto_region 4 with (first
    | (go_at_call 14; refine (Select_any w1 _ L k (GOwn.reads_m HG1.out) (by have := HLS.out; omega)).mono ?_; rintro e w2 ⟨v2, rfl, hg2, hb2⟩; rw [HL2.out] at hg2; have HR2 : Hid (MRow w2 v2 L) := GOwn.reads_m hg2; have HG2 : Hid (GOwn 23 3 w.heap.size w2 (.slice ad n cap) (L.map cellsM)) := HG1.out.below hb2; have HB2 : Hid (Below w.heap.size w w2) := HB1.out.trans (hb2.mono HB1.out.size); clear hb2 hg2)
    | (go_at_call 13; refine (same12_any w2 v2 _ L HR2.out (GOwn.reads_m HG2.out) (by have := HLS.out; omega)).mono ?_; rintro e w3 ⟨rfl, q, hq⟩; have hb3 : Below w2.heap.size w2 w3 := (by rw [hq]; exact belowN (Below.refl _ _) q); have HG3 : Hid (GOwn 23 3 w.heap.size w3 (.slice ad n cap) (L.map cellsM)) := HG2.out.below hb3; have HB3 : Hid (Below w.heap.size w w3) := HB2.out.trans (hb3.mono HB2.out.size); clear hq hb3)
    | (go_at_call 10; refine (alive_any w3).mono ?_; rintro e w4 ⟨rfl, hb4⟩; have HG4 : Hid (GOwn 23 3 w.heap.size w4 (.slice ad n cap) (L.map cellsM)) := HG3.out.below hb4; have HB4 : Hid (Below w.heap.size w w4) := HB3.out.trans (hb4.mono HB3.out.size); clear hb4))
  by_cases hf0 : f < 0
  · go_wp2
    go_ret
    exact ⟨rfl, HB4.out⟩
  · obtain ⟨fn, rfl⟩ : ∃ fn : Nat, f = (fn : Int) := ⟨f.toNat, by omega⟩
    by_cases hfn : (n : Int) < (fn : Int)
    · go_wp2
      go_ret
      exact ⟨rfl, HB4.out⟩
    · have hfn2 : fn ≤ n := by omega
      have HFE : Hid (bestF (kk (fn : Int)) l = L.take fn) := HFEW.out fn (by have := HN.out; omega)
      by_cases hc0 : cap = 0
      · have hn0 : n = 0 := by omega
        have hf1 : fn = 0 := by omega
        subst hn0 hf1 hc0
        obtain ⟨fn, hfn0⟩ : ∃ fn : Nat, fn = 0 := ⟨_, rfl⟩
        obtain ⟨sv, hsv⟩ : ∃ sv, sv = Value.slice ad 0 0 := ⟨_, rfl⟩
        have HSV : Hid (MRow w4 sv (L.take fn)) := by
          show MRow _ _ _
          rw [hfn0, List.take_zero, hsv]
          exact ⟨_, _, rfl, fun h => by simp at h⟩
        have HF0 : Hid (fn = 0) := hfn0
        rw [← hfn0] at HFE
        clear hfn0
        cases ad with
        | none =>
          go_upto_region 6 with fail
          refine region_at (S := fun _ => True) 8 rfl mixedB trivial (fun _ => ?_)
          refine take_at (i := 0) 29 rfl rfl (by kernel_rfl) (by kernel_rfl) (by kernel_rfl) (fun _ _ _ h => h) (by rfl) (fun w hSw => by (have hSw2 := id hSw; clear hSw; go_simp; first | done | exact rfl)) (by assumption) ?_
          simp only [List.setIfInBounds_toArray, List.set_cons_zero, List.set_cons_succ]
          refine take_at (i := 1) 30 rfl rfl (by kernel_rfl) (by kernel_rfl) (by kernel_rfl) (fun _ _ _ h => h) (by rfl) (fun w hSw => by (have hSw2 := id hSw; clear hSw; go_simp; first | done | exact rfl)) (by assumption) ?_
          simp only [List.setIfInBounds_toArray, List.set_cons_zero, List.set_cons_succ]
          refine take_at (i := 3) 32 rfl rfl (by kernel_rfl) (by kernel_rfl) (by kernel_rfl) (fun _ _ _ h => h) (by rfl) (fun w hSw => by (have hSw2 := id hSw; clear hSw; go_simp; first | done | exact rfl)) (by assumption) ?_
          simp only [List.setIfInBounds_toArray, List.set_cons_zero, List.set_cons_succ]
          refine take_at (i := 4) 33 rfl rfl (by kernel_rfl) (by kernel_rfl) (by kernel_rfl) (fun _ _ _ h => h) (by rfl) (fun w hSw => by (have hSw2 := id hSw; clear hSw; go_simp; first | done | exact rfl)) (by assumption) ?_
          simp only [List.setIfInBounds_toArray, List.set_cons_zero, List.set_cons_succ]
          refine take_at (i := 5) 34 rfl rfl (by kernel_rfl) (by kernel_rfl) (by kernel_rfl) (fun _ _ _ h => h) (by rfl) (fun w hSw => by (have hSw2 := id hSw; clear hSw; go_simp; first | done | exact rfl)) (by assumption) ?_
          simp only [List.setIfInBounds_toArray, List.set_cons_zero, List.set_cons_succ]
          refine one_call (i := 2) (w0 := w4.drew) 31 14 #[v, .int .i64 0] (by kernel_rfl) rfl rfl (by rfl) (by kernel_rfl) ((Select_any w4.drew v l 0 (HROW.out.below ((HB4.out).trans (Below.refl _ w4).drew)) (by have := HLL.out; omega)).mono ?_)
          rintro e w5 ⟨v5, rfl, hg5, hb5'⟩
          have hb5 : Below w4.heap.size w4 w5 := (Below.refl _ w4).drew.trans hb5'
          refine ⟨_, rfl, trivial, fun _ => ?_⟩
          simp only [List.setIfInBounds_toArray, List.set_cons_zero, List.set_cons_succ]
          have hfe : bestF (kk 0) l = L.take fn := by have hfe0 := HFE.out; rw [show ((fn : Nat) : Int) = 0 by rw [HF0.out]; rfl] at hfe0; exact hfe0
          rw [hfe] at hg5
          have HR5 : Hid (MRow w5 v5 (L.take fn)) := GOwn.reads_m hg5
          have HB5 : Hid (Below w.heap.size w w5) := HB4.out.trans (hb5.mono HB4.out.size)
          refine one_call (i := 6) (w0 := w5) 35 13 #[v5, sv] (by kernel_rfl) rfl rfl (by rfl) (by rw [hsv]; kernel_rfl) ((same12_any w5 v5 sv (L.take fn) HR5.out (HSV.out.below hb5) (by rw [List.length_take]; have := HLS.out; omega)).mono ?_)
          rintro e w6 ⟨rfl, q, hq⟩
          have HB6 : Hid (Below w.heap.size w w6) := by show Below _ _ _; rw [hq]; exact belowN HB5.out q
          clear hq
          refine ⟨_, rfl, trivial, fun _ => ?_⟩
          simp only [List.setIfInBounds_toArray, List.set_cons_zero, List.set_cons_succ]
          refine one_value (i := 7) (v := .bool true) (w' := w6) 6 (by kernel_rfl) rfl rfl (by rfl) (by kernel_rfl) trivial (fun _ => ?_)
          simp only [List.setIfInBounds_toArray, List.set_cons_zero, List.set_cons_succ]
          refine wpAnyH_done (by kernel_rfl) ?_ _
          go_wp2
          go_ret
          exact ⟨rfl, HB6.out⟩
        | some a =>
          go_upto_region 6 with fail
          refine region_at (S := fun _ => True) 8 rfl mixedB trivial (fun _ => ?_)
          refine take_at (i := 0) 29 rfl rfl (by kernel_rfl) (by kernel_rfl) (by kernel_rfl) (fun _ _ _ h => h) (by rfl) (fun w hSw => by (have hSw2 := id hSw; clear hSw; go_simp; first | done | exact rfl)) (by assumption) ?_
          simp only [List.setIfInBounds_toArray, List.set_cons_zero, List.set_cons_succ]
          refine take_at (i := 1) 30 rfl rfl (by kernel_rfl) (by kernel_rfl) (by kernel_rfl) (fun _ _ _ h => h) (by rfl) (fun w hSw => by (have hSw2 := id hSw; clear hSw; go_simp; first | done | exact rfl)) (by assumption) ?_
          simp only [List.setIfInBounds_toArray, List.set_cons_zero, List.set_cons_succ]
          refine take_at (i := 3) 32 rfl rfl (by kernel_rfl) (by kernel_rfl) (by kernel_rfl) (fun _ _ _ h => h) (by rfl) (fun w hSw => by (have hSw2 := id hSw; clear hSw; go_simp; first | done | exact rfl)) (by assumption) ?_
          simp only [List.setIfInBounds_toArray, List.set_cons_zero, List.set_cons_succ]
          refine take_at (i := 4) 33 rfl rfl (by kernel_rfl) (by kernel_rfl) (by kernel_rfl) (fun _ _ _ h => h) (by rfl) (fun w hSw => by (have hSw2 := id hSw; clear hSw; go_simp; first | done | exact rfl)) (by assumption) ?_
          simp only [List.setIfInBounds_toArray, List.set_cons_zero, List.set_cons_succ]
          refine take_at (i := 5) 34 rfl rfl (by kernel_rfl) (by kernel_rfl) (by kernel_rfl) (fun _ _ _ h => h) (by rfl) (fun w hSw => by (have hSw2 := id hSw; clear hSw; go_simp; first | done | exact rfl)) (by assumption) ?_
          simp only [List.setIfInBounds_toArray, List.set_cons_zero, List.set_cons_succ]
          refine one_call (i := 2) (w0 := w4.drew) 31 14 #[v, .int .i64 0] (by kernel_rfl) rfl rfl (by rfl) (by kernel_rfl) ((Select_any w4.drew v l 0 (HROW.out.below ((HB4.out).trans (Below.refl _ w4).drew)) (by have := HLL.out; omega)).mono ?_)
          rintro e w5 ⟨v5, rfl, hg5, hb5'⟩
          have hb5 : Below w4.heap.size w4 w5 := (Below.refl _ w4).drew.trans hb5'
          refine ⟨_, rfl, trivial, fun _ => ?_⟩
          simp only [List.setIfInBounds_toArray, List.set_cons_zero, List.set_cons_succ]
          have hfe : bestF (kk 0) l = L.take fn := by have hfe0 := HFE.out; rw [show ((fn : Nat) : Int) = 0 by rw [HF0.out]; rfl] at hfe0; exact hfe0
          rw [hfe] at hg5
          have HR5 : Hid (MRow w5 v5 (L.take fn)) := GOwn.reads_m hg5
          have HB5 : Hid (Below w.heap.size w w5) := HB4.out.trans (hb5.mono HB4.out.size)
          refine one_call (i := 6) (w0 := w5) 35 13 #[v5, sv] (by kernel_rfl) rfl rfl (by rfl) (by rw [hsv]; kernel_rfl) ((same12_any w5 v5 sv (L.take fn) HR5.out (HSV.out.below hb5) (by rw [List.length_take]; have := HLS.out; omega)).mono ?_)
          rintro e w6 ⟨rfl, q, hq⟩
          have HB6 : Hid (Below w.heap.size w w6) := by show Below _ _ _; rw [hq]; exact belowN HB5.out q
          clear hq
          refine ⟨_, rfl, trivial, fun _ => ?_⟩
          simp only [List.setIfInBounds_toArray, List.set_cons_zero, List.set_cons_succ]
          refine one_value (i := 7) (v := .bool true) (w' := w6) 6 (by kernel_rfl) rfl rfl (by rfl) (by kernel_rfl) trivial (fun _ => ?_)
          simp only [List.setIfInBounds_toArray, List.set_cons_zero, List.set_cons_succ]
          refine wpAnyH_done (by kernel_rfl) ?_ _
          go_wp2
          go_ret
          exact ⟨rfl, HB6.out⟩
      · have hfz : (fn : Int) ≤ (cap : Int) := by omega
        obtain ⟨g, hg⟩ : ∃ g, ad = some ⟨g, 0, none⟩ := by
          obtain ⟨_, _, ⟨e, _⟩ | ⟨g, c, cur, e, _⟩⟩ := HG4.out
          · simp only [Value.slice.injEq] at e; exact absurd e.2.2 hc0
          · simp only [Value.slice.injEq] at e; exact ⟨g, e.1⟩
        subst hg
        obtain ⟨sv, hsv⟩ : ∃ sv, sv = Value.slice (some ⟨g, 0, none⟩) fn cap := ⟨_, rfl⟩
        have HSV : Hid (MRow w4 sv (L.take fn)) := by
          have := GOwn.cut HG4.out fn (by rw [List.length_map]; exact HN.out.symm) hfn2
          rw [← List.map_take, ← hsv] at this
          exact GOwn.reads_m this
        go_upto_region 6 with fail
        refine region_at (S := fun _ => True) 8 rfl mixedB trivial (fun _ => ?_)
        refine take_at (i := 0) 29 rfl rfl (by kernel_rfl) (by kernel_rfl) (by kernel_rfl) (fun _ _ _ h => h) (by rfl) (fun w hSw => by (have hSw2 := id hSw; clear hSw; go_simp; first | done | exact rfl)) (by assumption) ?_
        simp only [List.setIfInBounds_toArray, List.set_cons_zero, List.set_cons_succ]
        refine take_at (i := 1) 30 rfl rfl (by kernel_rfl) (by kernel_rfl) (by kernel_rfl) (fun _ _ _ h => h) (by rfl) (fun w hSw => by (have hSw2 := id hSw; clear hSw; go_simp; first | done | exact rfl)) (by assumption) ?_
        simp only [List.setIfInBounds_toArray, List.set_cons_zero, List.set_cons_succ]
        refine take_at (i := 3) 32 rfl rfl (by kernel_rfl) (by kernel_rfl) (by kernel_rfl) (fun _ _ _ h => h) (by rfl) (fun w hSw => by (have hSw2 := id hSw; clear hSw; go_simp; first | done | exact rfl)) (by assumption) ?_
        simp only [List.setIfInBounds_toArray, List.set_cons_zero, List.set_cons_succ]
        refine take_at (i := 4) 33 rfl rfl (by kernel_rfl) (by kernel_rfl) (by kernel_rfl) (fun _ _ _ h => h) (by rfl) (fun w hSw => by (have hSw2 := id hSw; clear hSw; go_simp; first | done | exact rfl)) (by assumption) ?_
        simp only [List.setIfInBounds_toArray, List.set_cons_zero, List.set_cons_succ]
        refine take_at (i := 5) 34 rfl rfl (by kernel_rfl) (by kernel_rfl) (by kernel_rfl) (fun _ _ _ h => h) (by rfl) (fun w hSw => by (have hSw2 := id hSw; clear hSw; go_simp; first | done | exact rfl)) (by assumption) ?_
        simp only [List.setIfInBounds_toArray, List.set_cons_zero, List.set_cons_succ]
        refine one_call (i := 2) (w0 := w4.drew) 31 14 #[v, .int .i64 (fn : Int)] (by kernel_rfl) rfl rfl (by rfl) (by kernel_rfl) ((Select_any w4.drew v l (fn : Int) (HROW.out.below ((HB4.out).trans (Below.refl _ w4).drew)) (by have := HLL.out; omega)).mono ?_)
        rintro e w5 ⟨v5, rfl, hg5, hb5'⟩
        have hb5 : Below w4.heap.size w4 w5 := (Below.refl _ w4).drew.trans hb5'
        refine ⟨_, rfl, trivial, fun _ => ?_⟩
        simp only [List.setIfInBounds_toArray, List.set_cons_zero, List.set_cons_succ]
        rw [HFE.out] at hg5
        have HR5 : Hid (MRow w5 v5 (L.take fn)) := GOwn.reads_m hg5
        have HB5 : Hid (Below w.heap.size w w5) := HB4.out.trans (hb5.mono HB4.out.size)
        refine one_call (i := 6) (w0 := w5) 35 13 #[v5, sv] (by kernel_rfl) rfl rfl (by rfl) (by rw [hsv]; kernel_rfl) ((same12_any w5 v5 sv (L.take fn) HR5.out (HSV.out.below hb5) (by rw [List.length_take]; have := HLS.out; omega)).mono ?_)
        rintro e w6 ⟨rfl, q, hq⟩
        have HB6 : Hid (Below w.heap.size w w6) := by show Below _ _ _; rw [hq]; exact belowN HB5.out q
        clear hq
        refine ⟨_, rfl, trivial, fun _ => ?_⟩
        simp only [List.setIfInBounds_toArray, List.set_cons_zero, List.set_cons_succ]
        refine one_value (i := 7) (v := .bool true) (w' := w6) 6 (by kernel_rfl) rfl rfl (by rfl) (by kernel_rfl) trivial (fun _ => ?_)
        simp only [List.setIfInBounds_toArray, List.set_cons_zero, List.set_cons_succ]
        refine wpAnyH_done (by kernel_rfl) ?_ _
        go_wp2
        go_ret
        exact ⟨rfl, HB6.out⟩
end Bt
end Go.Proofs.Ytmpfcdffpjocnaa
