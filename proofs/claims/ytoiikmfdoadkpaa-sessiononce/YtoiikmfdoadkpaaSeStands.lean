/- stands. -/
import Derived.Test.YtoiikmfdoadkpaaSeDoes
import Derived.Test.YtoiikmfdoadkpaaSeLoad
namespace Go.Proofs.Ytoiikmfdoadkpaa
open Go.RowKit Go.Lib
set_option maxRecDepth 100000
namespace Se
attribute [local go_sem ↓] exec_load_A exec_load_T exec_load_R exec_store_R exec_load_K exec_store_K
set_option maxHeartbeats 4000000 in
theorem stands_any (B : Nat) (w : World) (p : Nat) (v : Value) (l : List Rw) (x : Tb) (m : Nat) (ks : List Kp) (S : DSt B w p v l x m ks) (hL : Like l m ks) (hl : l.length ≤ 1099511627776) (hk : ks.length ≤ 549755813888) : Calls Try.prog 12 #[.pointer (some ⟨p, 0, none⟩), valT x] w fun e w' => e = .returned (.bool true) ∧ Below w.heap.size w w' := by
  have hx := S.ref.1
  rw [hL.len] at hx
  obtain ⟨n, hn⟩ : ∃ n, l.length = n := ⟨_, rfl⟩
  have HN : Hid (l.length = n) := hn
  obtain ⟨m', ad0, n0, cap0⟩ := x
  simp only at hx
  subst hx
  rw [hn] at S ⊢
  obtain ⟨q0, hq0⟩ : ∃ q, w.heap.size = q := ⟨_, rfl⟩
  obtain ⟨V1, hV1⟩ : ∃ V1, w.alloc (.cells #[.int .u64 n, .slice ad0 n0 cap0] 29) = V1 := ⟨_, rfl⟩
  have hb1 : Below w.heap.size w V1 := by rw [← hV1]; exact (Below.refl _ w).alloc (Nat.le_refl _) _
  have hn1 : V1.heap[q0]? = some (.cells #[.int .u64 n, .slice ad0 n0 cap0] 29) := by rw [← hV1, ← hq0]; exact alloc_newM _ _
  have S1 := S.below hb1
  have HR := Rows_any B V1 p v l S1.tab (by omega)
  have hL2 : Hid (Like l m ks ∧ l.length ≤ 1099511627776) := ⟨hL, hl⟩
  have HS : Hid (DSt B V1 p v l ((n : Int), ad0, n0, cap0) m ks ∧ V1.heap[q0]? = some (.cells #[.int .u64 n, .slice ad0 n0 cap0] 29) ∧ Below q0 w V1) := ⟨S1, hn1, by rw [← hq0]; exact hb1⟩
  clear S hb1 hn1 S1 hn hL hl
  unfold valT
  go_enter Try.func12, Try.ntmps12
  go_wp2_with (go_at_call 14; go_loud (refine HR.mono ?_; rintro e w2 ⟨v2, rfl, hG2, hb2⟩; obtain ⟨a7, c7, hv7, _⟩ := hG2.shape; rw [List.length_map, HN.out] at hv7; subst hv7; have H2 : Hid (GOwn 43 4 V1.heap.size w2 (.slice a7 n c7) (l.map cellsR) ∧ Below V1.heap.size V1 w2) := ⟨hG2, hb2⟩; clear hG2 hb2))
  obtain ⟨V2, hV2⟩ : ∃ V2, w2.drew = V2 := ⟨_, rfl⟩
  have hb12 : Below V1.heap.size V1 V2 := by rw [← hV2]; exact H2.out.2.drew
  have hd2 : Below w2.heap.size w2 V2 := by rw [← hV2]; exact (Below.refl _ w2).drew
  have S2 := HS.out.1.below hb12
  have hbox : V2.heap[q0]? = some (.cells #[.int .u64 n, .slice ad0 n0 cap0] 29) := heap_own hb12 (lt_of_heap HS.out.2.1) HS.out.2.1
  have c0 : V2.cell? ⟨q0, 0, none⟩ = some (.int .u64 n) := by simp [World.cell?, hbox]
  have HL := Len_any B V2 p v l S2.tab
  rw [HN.out] at HL
  have hn40 : n ≤ 1099511627776 := by have := HN.out; have := hL2.out.2; omega
  have hwr : IntKind.i64.wrap (n : Int) = (n : Int) := by rw [IntKind.wrap_i64]; omega
  have HLK : Hid (Like l m ks) := hL2.out.1
  have H3 : Hid (DSt B V2 p v l ((n : Int), ad0, n0, cap0) m ks ∧ V2.heap[q0]? = some (.cells #[.int .u64 n, .slice ad0 n0 cap0] 29) ∧ Below q0 w V2 ∧ GOwn 43 4 V1.heap.size V2 (.slice a7 n c7) (l.map cellsR)) := ⟨S2, hbox, HS.out.2.2.trans (hb12.mono (by have := lt_of_heap HS.out.2.1; omega)), H2.out.1.below hd2⟩
  have hSS : V2 = V2 := rfl
  clear hb12 hd2 S2 hbox H2
  refine region_at (S := fun W' => W' = V2) 13 rfl mixedP (by rw [hV2]) (fun _ => ?_)
  rw [hV2]
  refine take_at (i := 0) 11 rfl rfl (by kernel_rfl) (by kernel_rfl) (by kernel_rfl) (fun _ _ _ h => h) (by rfl) (fun w hSw => by (have hSw2 := Eq.symm hSw; clear hSw; go_simp; first | done | exact rfl)) (by assumption) ?_
  simp only [List.setIfInBounds_toArray, List.set_cons_zero, List.set_cons_succ]
  refine take_at (i := 2) 13 rfl rfl (by kernel_rfl) (by kernel_rfl) (by kernel_rfl) (fun _ _ _ h => h) (by rfl) (fun w hSw => by (have hSw2 := Eq.symm hSw; clear hSw; go_simp; first | done | exact rfl)) (by assumption) ?_
  simp only [List.setIfInBounds_toArray, List.set_cons_zero, List.set_cons_succ]
  refine take_at (i := 3) (v := .int .u64 n) 14 rfl rfl (by kernel_rfl) (by kernel_rfl) (by kernel_rfl) (fun _ _ _ h => h) (by rfl) (fun w hSw => by subst hSw; go_simp; first | done | exact rfl) (by assumption) ?_
  simp only [List.setIfInBounds_toArray, List.set_cons_zero, List.set_cons_succ]
  refine take_at (i := 4) (v := .int .i64 n) 15 rfl rfl (by kernel_rfl) (by kernel_rfl) (by kernel_rfl) (fun _ _ _ h => h) (by rfl) (fun w hSw => by clear hSw; go_simp; first | done | exact rfl) (by assumption) ?_
  simp only [List.setIfInBounds_toArray, List.set_cons_zero, List.set_cons_succ]
  refine one_call (i := 1) (w0 := V2) 12 15 #[.pointer (some ⟨p, 0, none⟩)] (by kernel_rfl) rfl rfl (by rfl) (by kernel_rfl) (HL.mono ?_)
  rintro e w9 ⟨rfl, hw9⟩
  refine ⟨_, rfl, hw9, fun _ => ?_⟩
  replace hw9 := hw9.symm
  subst hw9
  simp only [List.setIfInBounds_toArray, List.set_cons_zero, List.set_cons_succ]
  refine take_at (i := 5) (v := .bool false) 16 rfl rfl (by kernel_rfl) (by kernel_rfl) (by kernel_rfl) (fun _ _ _ h => h) (by rfl) (fun w hSw => by clear hSw; go_simp; first | done | exact rfl) (by assumption) ?_
  simp only [List.setIfInBounds_toArray, List.set_cons_zero, List.set_cons_succ]
  refine take_at (i := 6) 17 rfl rfl (by kernel_rfl) (by kernel_rfl) (by kernel_rfl) (fun _ _ _ h => h) (by rfl) (fun w hSw => by (have hSw2 := Eq.symm hSw; clear hSw; go_simp; first | done | exact rfl)) (by assumption) ?_
  simp only [List.setIfInBounds_toArray, List.set_cons_zero, List.set_cons_succ]
  refine take_at (i := 7) 18 rfl rfl (by kernel_rfl) (by kernel_rfl) (by kernel_rfl) (fun _ _ _ h => h) (by rfl) (fun w hSw => by (have hSw2 := Eq.symm hSw; clear hSw; go_simp; first | done | exact rfl)) (by assumption) ?_
  simp only [List.setIfInBounds_toArray, List.set_cons_zero, List.set_cons_succ]
  refine take_at (i := 8) 19 rfl rfl (by kernel_rfl) (by kernel_rfl) (by kernel_rfl) (fun _ _ _ h => h) (by rfl) (fun w hSw => by (have hSw2 := Eq.symm hSw; clear hSw; go_simp; first | done | exact rfl)) (by assumption) ?_
  simp only [List.setIfInBounds_toArray, List.set_cons_zero, List.set_cons_succ]
  refine take_at (i := 9) 20 rfl rfl (by kernel_rfl) (by kernel_rfl) (by kernel_rfl) (fun _ _ _ h => h) (by rfl) (fun w hSw => by (have hSw2 := Eq.symm hSw; clear hSw; go_simp; first | done | exact rfl)) (by assumption) ?_
  simp only [List.setIfInBounds_toArray, List.set_cons_zero, List.set_cons_succ]
  refine one_call (i := 10) (w0 := V2) 21 15 #[.pointer (some ⟨p, 0, none⟩)] (by kernel_rfl) rfl rfl (by rfl) (by kernel_rfl) (HL.mono ?_)
  rintro e w9 ⟨rfl, hw9⟩
  refine ⟨_, rfl, hw9, fun _ => ?_⟩
  replace hw9 := hw9.symm
  subst hw9
  simp only [List.setIfInBounds_toArray, List.set_cons_zero, List.set_cons_succ]
  refine take_at (i := 11) (v := .bool false) 22 rfl rfl (by kernel_rfl) (by kernel_rfl) (by kernel_rfl) (fun _ _ _ h => h) (by rfl) (fun w hSw => by clear hSw; go_simp; first | done | exact rfl) (by assumption) ?_
  simp only [List.setIfInBounds_toArray, List.set_cons_zero, List.set_cons_succ]
  refine take_at (i := 12) (v := .bool false) 23 rfl rfl (by kernel_rfl) (by kernel_rfl) (by kernel_rfl) (fun _ _ _ h => h) (by rfl) (fun w hSw => by clear hSw; go_simp; first | done | exact rfl) (by assumption) ?_
  simp only [List.setIfInBounds_toArray, List.set_cons_zero, List.set_cons_succ]
  refine wpAnyH_done (by kernel_rfl) ?_ _
  go_wp2
  have HLAT : Hid (∀ W1 (id : Int), Below V2.heap.size V2 W1 → loadT Try.prog (.pointer (some ⟨q0, 0, none⟩)) W1 = .ok (valT ((n : Int), ad0, n0, cap0)) W1 ∧ Calls Try.prog 23 #[valT ((n : Int), ad0, n0, cap0), .int .u64 id] W1 fun e w' => e = .returned (valK (latest ks id)) ∧ Below W1.heap.size W1 w') := fun W1 id hb => by
    have h1 := heap_own hb (lt_of_heap H3.out.2.1) H3.out.2.1
    exact ⟨own_loadT (x := ((n : Int), ad0, n0, cap0)) h1, Latest_any W1 ((n : Int), ad0, n0, cap0) m ks id (H3.out.1.ref.below hb) (by omega)⟩
  clear hL2 c0 hV2 hwr
  go_loopg [6, 7, 8, 26] n (fun g _ _ _ s26 wr => ∃ (k : Nat), s26 = .int .i64 k ∧ k ≤ n ∧ n - k ≤ g ∧ Hid (Below V2.heap.size V2 wr))
  case atStart => exact ⟨0, rfl, Nat.zero_le _, by omega, Below.refl _ _⟩
  case round =>
    obtain ⟨k, rfl, hk2, hg, HB⟩ := hrel
    by_cases hlt : k < n
    · have hltz : (k : Int) < (n : Int) := by omega
      have HLT : Hid (k < n) := hlt
      have hw : IntKind.u64.wrap ((k : Int) + 1) = (k : Int) + 1 := by rw [IntKind.wrap_u64]; omega
      obtain ⟨g1, cap1, hv1, hg1, hB9, hcap9, hc⟩ := (H3.out.2.2.2.below HB.out).cell (by rw [List.length_map, HN.out]; omega)
      simp only [Value.slice.injEq] at hv1
      obtain ⟨rfl, hn9, hc9⟩ := hv1
      clear hn9 hc9 hB9 hcap9
      have hrow := HLK.out.rows k (by rw [HN.out]; exact hlt)
      have hxm : (l.map cellsR)[k]? = some (cellsR (latest ks ((k : Int) + 1)).2) := by rw [List.getElem?_map, el_get (by rw [HN.out]; exact hlt), hrow]; rfl
      have hld : loadR Try.prog (.pointer (some ⟨g1, k * 4, none⟩)) wr = .ok (valR (latest ks ((k : Int) + 1)).2) wr := loadR_at (fun j u hj => hc k j _ u hxm hj)
      obtain ⟨W1, hst1, hb1, hc1⟩ := new_storeR wr (latest ks ((k : Int) + 1)).2
      obtain ⟨hldT, HLC⟩ := HLAT.out W1 ((k : Int) + 1) (HB.out.trans (hb1.mono HB.out.size))
      have HEND : Hid (∀ w3, Below W1.heap.size W1 w3 → ∃ W4, storeK Try.prog (.pointer (some ⟨w3.heap.size, 0, none⟩)) (valK (latest ks ((k : Int) + 1))) (w3.alloc zK) = .ok () W4 ∧ W4.cell? ⟨wr.heap.size, 0, none⟩ = some (.int .u64 (latest ks ((k : Int) + 1)).2.1) ∧ W4.cell? ⟨w3.heap.size, 1, none⟩ = some (.int .u64 (latest ks ((k : Int) + 1)).2.1) ∧ loadA Try.prog (.pointer (some ⟨wr.heap.size, 1, none⟩)) W4 = .ok (valA (latest ks ((k : Int) + 1)).2.2) W4 ∧ loadA Try.prog (.pointer (some ⟨w3.heap.size, 2, none⟩)) W4 = .ok (valA (latest ks ((k : Int) + 1)).2.2) W4 ∧ Hid (Below V2.heap.size V2 W4)) := fun w3 hb3 => by
        obtain ⟨W4, hst4, hb4, hc4⟩ := new_storeK w3 (latest ks ((k : Int) + 1))
        have hr4 : W4.heap[wr.heap.size]? = some (.cells (cellsR (latest ks ((k : Int) + 1)).2).toArray 43) := heap_own hb4 (by have := lt_of_heap hc1; have := hb3.size; omega) (heap_own hb3 (lt_of_heap hc1) hc1)
        have z1 := HB.out.size
        have z2 := hb1.size
        have z3 := hb3.size
        refine ⟨W4, hst4, by simp [World.cell?, hr4, cellsR], by simp [World.cell?, hc4, cellsK], loadA_at (fun j u hj => ?_), loadA_at (fun j u hj => ?_), ((HB.out.trans (hb1.mono (by omega))).trans (hb3.mono (by omega))).trans (hb4.mono (by omega))⟩
        · have h := cat_new hr4 (1 + j) u (by
            match j, hj with
            | 0, hj => simpa [cellsR, cellsA] using hj
            | 1, hj => simpa [cellsR, cellsA] using hj
            | 2, hj => simpa [cellsR, cellsA] using hj
            | n + 3, hj => simp [cellsA] at hj)
          rwa [Nat.zero_add] at h
        · have h := cat_new hc4 (2 + j) u (by
            match j, hj with
            | 0, hj => simpa [cellsK, cellsA] using hj
            | 1, hj => simpa [cellsK, cellsA] using hj
            | 2, hj => simpa [cellsK, cellsA] using hj
            | n + 3, hj => simp [cellsA] at hj)
          rwa [Nat.zero_add] at h
      clear hrow hxm hc hb1 hc1
      generalize latest ks ((k : Int) + 1) = y at *
      unfold valR zR at *
      unfold valT at hldT HLC
      unfold valK at HLC HEND
      unfold valA zK at HEND
      go_wp2_with (go_at_call 23; go_loud (refine HLC.mono ?_; rintro e w3 ⟨rfl, hb3⟩; obtain ⟨W4, h1, h2, h3, h4, h5, H6⟩ := HEND.out w3 hb3; clear hb3 HEND HLC))
      go_roundg (n - (k + 1))
      case measure => have := HLT.out; omega
      case rel => exact ⟨k + 1, by go_num, HLT.out, Nat.le_refl _, H6.out⟩
    · have hltz : ¬ (k : Int) < (n : Int) := by omega
      go_wp2
      go_ret
      have hB := H3.out.2.2.1.trans (HB.out.mono (by have := H3.out.2.2.1.size; omega))
      exact ⟨rfl, by first | exact hB | (rw [hq0]; exact hB)⟩
end Se
end Go.Proofs.Ytoiikmfdoadkpaa
