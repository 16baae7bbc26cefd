/- The reference's Check. -/
import Derived.Test.YtoiikmfdoadkpaaSeRef2
namespace Go.Proofs.Ytoiikmfdoadkpaa
open Go.RowKit Go.Lib
set_option maxRecDepth 100000
namespace Se
attribute [local go_sem ↓] exec_load_A exec_store_A exec_load_T exec_store_T exec_load_K exec_store_K
theorem rc_results {tmps : Array Value} {w : World} {rb : Nat} {x : An} (h2 : tmps.getD 6 undef = .pointer (some ⟨rb, 0, none⟩)) (c : CAt w rb 0 (cellsA x)) : (results Try.f21 tmps).run Try.prog w = .ok (.tuple #[valA x, tmps.getD 7 undef, tmps.getD 8 undef]) w := by
  have c0 := c 0 _ rfl
  have c1 := c 1 _ rfl
  have c2 := c 2 _ rfl
  simp only [Nat.add_zero] at c0
  have h2' : tmps[6]?.getD undef = .pointer (some ⟨rb, 0, none⟩) := by simpa using h2
  simp [results, Try.results21, go_sem, h2', c0, c1, c2, valA]
set_option maxHeartbeats 2000000 in
theorem rCheck_any (w : World) (x : Tb) (m : Nat) (ks : List Kp) (id seq : Int) (K : KAt w x m ks) (hl : ks.length ≤ 1099511627776) : Calls Try.prog 21 #[valT x, .int .u64 id, .int .u64 seq] w fun e w' => e = .returned (chkV (rchk m ks id seq)) ∧ Below w.heap.size w w' := by
  have hx := K.1
  obtain ⟨m', ad, n', cap⟩ := x
  simp only at hx
  subst hx
  obtain ⟨q0, hq0⟩ : ∃ q, w.heap.size = q := ⟨_, rfl⟩
  obtain ⟨V1, hV1⟩ : ∃ V1, w.alloc (.cells #[.int .u64 m, .slice ad n' cap] 29) = V1 := ⟨_, rfl⟩
  have hb1 : Below w.heap.size w V1 := by rw [← hV1]; exact (Below.refl _ w).alloc (Nat.le_refl _) _
  have hn1 : V1.heap[q0]? = some (.cells #[.int .u64 m, .slice ad n' cap] 29) := by rw [← hV1, ← hq0]; exact alloc_newM _ _
  have e1 : V1.heap.size = q0 + 1 := by rw [← hV1, ← hq0]; simp
  obtain ⟨V2, hV2⟩ : ∃ V2, V1.alloc zA = V2 := ⟨_, rfl⟩
  have hb2 : Below V1.heap.size V1 V2 := by rw [← hV2]; exact (Below.refl _ V1).alloc (Nat.le_refl _) _
  have hn2 : V2.heap[q0 + 1]? = some zA := by rw [← hV2, ← e1]; exact alloc_newM _ _
  have e2 : V2.heap.size = q0 + 1 + 1 := by rw [← hV2, ← e1]; simp
  have hm1 : V2.heap[q0]? = some (.cells #[.int .u64 m, .slice ad n' cap] 29) := heap_own hb2 (lt_of_heap hn1) hn1
  have hwb : Below q0 w V2 := by rw [← hq0]; exact hb1.trans (hb2.mono (by omega))
  have c0 : V2.cell? ⟨q0, 0, none⟩ = some (.int .u64 m) := by simp [World.cell?, hm1]
  have hld : loadT Try.prog (.pointer (some ⟨q0, 0, none⟩)) V2 = .ok (valT ((m : Int), ad, n', cap)) V2 := own_loadT hm1
  have HLT := Latest_any V2 ((m : Int), ad, n', cap) m ks id (K.below (hb1.trans (hb2.mono (by omega)))) hl
  unfold zA at hV2
  obtain ⟨R, hR⟩ : ∃ R, rchk m ks id seq = R := ⟨_, rfl⟩
  have HR : Hid (rchk m ks id seq = R) := hR
  cases hh : rhas m id with
  | false =>
    have hE : R = ((0, 0, 0), false, 150) := by rw [← hR]; unfold rchk; rw [hh]; rfl
    rw [hE] at HR
    unfold rhas at hh
    rw [decide_eq_false_iff_not] at hh
    obtain ⟨W, hst, huW, hcW⟩ := own_storeA (ys := [.int .i64 0, .int .u64 0, .int .i64 0]) rfl hn2 (0, 0, 0)
    have HF : Hid (CAt W (q0 + 1) 0 (cellsA (0, 0, 0)) ∧ Below q0 w W) := ⟨cat_new hcW, hwb.trans (huW.below (B := q0) (fun k e => by have : k = q0 + 1 := e; omega) (by omega))⟩
    clear hb1 hb2 hn1 hn2 hm1 hwb huW hcW hE hR K
    unfold valA at hst
    unfold valT at hld ⊢
    by_cases h1 : id < 1
    · clear hh
      go_enter Try.func21, Try.ntmps21
      go_wp2
      refine bodyPost_ret (rc_results rfl HF.out.1) rfl ?_
      exact ⟨by rw [HR.out]; rfl, by first | exact HF.out.2 | (rw [hq0]; exact HF.out.2)⟩
    · have h2 : (m : Int) < id := by omega
      clear hh
      go_enter Try.func21, Try.ntmps21
      go_wp2
      refine bodyPost_ret (rc_results rfl HF.out.1) rfl ?_
      exact ⟨by rw [HR.out]; rfl, by first | exact HF.out.2 | (rw [hq0]; exact HF.out.2)⟩
  | true =>
    have hE : R = if seq = 0 ∨ seq < (latest ks id).2.1 then ((0, 0, 0), false, 151) else if seq = (latest ks id).2.1 then ((latest ks id).2.2, true, 0) else ((0, 0, 0), false, 0) := by rw [← hR]; unfold rchk; rw [if_pos hh]
    unfold rhas at hh
    rw [decide_eq_true_eq] at hh
    obtain ⟨hh1, hh2⟩ := hh
    have hh3 : ¬ id < 1 := by omega
    have hh4 : ¬ (m : Int) < id := by omega
    have HEND : Hid (∀ w3, Below V2.heap.size V2 w3 → ∃ W4 W, storeK Try.prog (.pointer (some ⟨w3.heap.size, 0, none⟩)) (valK (latest ks id)) (w3.alloc zK) = .ok () W4 ∧ W4.cell? ⟨w3.heap.size, 1, none⟩ = some (.int .u64 (latest ks id).2.1) ∧ loadA Try.prog (.pointer (some ⟨w3.heap.size, 2, none⟩)) W4 = .ok (valA (latest ks id).2.2) W4 ∧ storeA Try.prog (.pointer (some ⟨q0 + 1, 0, none⟩)) (valA R.1) W4 = .ok () W ∧ Hid (CAt W (q0 + 1) 0 (cellsA R.1) ∧ Below q0 w W)) := fun w3 hb3 => by
      obtain ⟨W4, hs4, hb4, hn4⟩ := new_storeK w3 (latest ks id)
      have hr4 : W4.heap[q0 + 1]? = some zA := heap_own hb4 (by have := hb3.size; omega) (heap_own hb3 (lt_of_heap hn2) hn2)
      obtain ⟨W, hst, huW, hcW⟩ := own_storeA (ys := [.int .i64 0, .int .u64 0, .int .i64 0]) rfl hr4 R.1
      refine ⟨W4, W, hs4, by simp [World.cell?, hn4, cellsK], loadA_at (fun j u hj => ?_), hst, ⟨cat_new hcW, ?_⟩⟩
      · have h := cat_new hn4 (2 + j) u (by
          match j, hj with
          | 0, hj => simpa [cellsK, cellsA] using hj
          | 1, hj => simpa [cellsK, cellsA] using hj
          | 2, hj => simpa [cellsK, cellsA] using hj
          | n + 3, hj => simp [cellsA] at hj)
        rwa [Nat.zero_add] at h
      · exact ((hwb.trans (hb3.mono (by omega))).trans (hb4.mono (by have := hb3.size; omega))).trans (huW.below (B := q0) (fun k e => by have : k = q0 + 1 := e; omega) (by have := hb3.size; have := hb4.size; omega))
    clear hb1 hb2 hn1 hn2 hm1 hwb K hR
    generalize latest ks id = y at *
    unfold valT at hld ⊢ HLT
    unfold valK at HLT HEND
    unfold valA at HEND
    unfold zK at HEND
    by_cases h1 : seq = 0 ∨ seq < y.2.1
    · rw [if_pos h1] at hE
      subst hE
      by_cases h0 : seq = 0
      · subst h0
        go_enter Try.func21, Try.ntmps21
        simp only at HEND
        go_wp2_with (go_at_call 23; go_loud (refine HLT.mono ?_; rintro e w3 ⟨rfl, hb3⟩; obtain ⟨W4, W, h1, h2, h3, h4, HF⟩ := HEND.out w3 hb3; clear hb3 HEND))
        refine bodyPost_ret (rc_results rfl HF.out.1) rfl ?_
        exact ⟨by rw [HR.out]; rfl, by first | exact HF.out.2 | (rw [hq0]; exact HF.out.2)⟩
      · have h2 : seq < y.2.1 := h1.resolve_left h0
        go_enter Try.func21, Try.ntmps21
        simp only at HEND
        go_wp2_with (go_at_call 23; go_loud (refine HLT.mono ?_; rintro e w3 ⟨rfl, hb3⟩; obtain ⟨W4, W, h1, h2, h3, h4, HF⟩ := HEND.out w3 hb3; clear hb3 HEND))
        refine bodyPost_ret (rc_results rfl HF.out.1) rfl ?_
        exact ⟨by rw [HR.out]; rfl, by first | exact HF.out.2 | (rw [hq0]; exact HF.out.2)⟩
    · rw [if_neg h1] at hE
      have h0 : ¬ seq = 0 := fun e => h1 (.inl e)
      have h2 : ¬ seq < y.2.1 := fun e => h1 (.inr e)
      by_cases h3 : seq = y.2.1
      · rw [if_pos h3] at hE
        subst hE
        go_enter Try.func21, Try.ntmps21
        simp only at HEND
        go_wp2_with (go_at_call 23; go_loud (refine HLT.mono ?_; rintro e w3 ⟨rfl, hb3⟩; obtain ⟨W4, W, h1, h2, h3, h4, HF⟩ := HEND.out w3 hb3; clear hb3 HEND))
        refine bodyPost_ret (rc_results rfl HF.out.1) rfl ?_
        exact ⟨by rw [HR.out]; rfl, by first | exact HF.out.2 | (rw [hq0]; exact HF.out.2)⟩
      · rw [if_neg h3] at hE
        subst hE
        have hqa : (seq == 0) = false := by simpa using h0
        have hq2 : decide (seq < y.2.1) = false := by simpa using h2
        have hq3 : (seq == y.2.1) = false := by simpa using h3
        clear h0 h1 h2 h3
        go_enter Try.func21, Try.ntmps21
        simp only at HEND
        go_wp2_with (go_at_call 23; go_loud (refine HLT.mono ?_; rintro e w3 ⟨rfl, hb3⟩; obtain ⟨W4, W, h1, h2, h3, h4, HF⟩ := HEND.out w3 hb3; clear hb3 HEND))
        refine bodyPost_ret (rc_results rfl HF.out.1) rfl ?_
        exact ⟨by rw [HR.out]; rfl, by first | exact HF.out.2 | (rw [hq0]; exact HF.out.2)⟩
end Se
end Go.Proofs.Ytoiikmfdoadkpaa
