/- A script's call: Check. -/
import Derived.Test.YtoiikmfdoadkpaaSeDoB
import Derived.Test.YtoiikmfdoadkpaaDrawn8
namespace Go.Proofs.Ytoiikmfdoadkpaa
open Go.RowKit Go.Lib
set_option maxRecDepth 100000
namespace Se
theorem eqA (a b : An) (w : World) : (binOp .eql 32 (valA a) (valA b)).run Try.prog w = .ok (.bool (a == b)) w := by
  obtain ⟨a1, a2, a3⟩ := a
  obtain ⟨b1, b2, b3⟩ := b
  unfold valA
  rw [show ((a1, a2, a3) == (b1, b2, b3)) = (a1 == b1 && (a2 == b2 && a3 == b3)) from rfl]
  simp [go_sem]
  by_cases h1 : a1 = b1
  · by_cases h2 : a2 = b2
    · by_cases h3 : a3 = b3 <;> simp [h1, h2, h3]
    · simp [h1, h2]
  · simp [h1]
attribute [local go_sem ↓] exec_load_A exec_store_A exec_load_T exec_store_T
set_option maxHeartbeats 8000000 in
theorem does1 (B : Nat) (w : World) (p : Nat) (v : Value) (l : List Rw) (x : Tb) (m : Nat) (ks : List Kp) (o : Oo) (S : DSt B w p v l x m ks) (hl : l.length ≤ 1099511627775) (hk : ks.length ≤ 549755813888) (ho : o.1 = 1) : Calls Try.prog 11 #[.pointer (some ⟨p, 0, none⟩), valT x, valO o] w fun e w' => DoEnd B w p v l m ks o e w' := by
  obtain ⟨V3, hV3, hW3, hb3, e3⟩ := do_begin w x o
  obtain ⟨q0, hq0⟩ : ∃ q, w.heap.size = q := ⟨_, rfl⟩
  have S3 := S.below hb3
  have hTlt : ∀ k, TF p v k → k < q0 := fun k hk => by rw [← hq0]; exact TF.here S.tab hk
  have hXlt : ∀ g, (tvs x).ownBlock = some g → g < q0 := fun g hg => by rw [← hq0]; exact S.ref.2.lt hg
  rw [hq0] at hW3 e3
  obtain ⟨c0, c1, c2, hla, hld⟩ := hW3.ops
  have HK := Check_any B V3 p v l o.2.1 o.2.2.1 S3.tab (by omega)
  obtain ⟨A1, hA1⟩ : ∃ A, chk l o.2.1 o.2.2.1 = A := ⟨_, rfl⟩
  obtain ⟨A2, hA2⟩ : ∃ A, rchk m ks o.2.1 o.2.2.1 = A := ⟨_, rfl⟩
  rw [hA1] at HK
  have HR : Hid (∀ w4, Below V3.heap.size V3 w4 → ∃ W5, storeA Try.prog (.pointer (some ⟨w4.heap.size, 0, none⟩)) (valA A1.1) (w4.alloc zA) = .ok () W5 ∧ (W5.cell? ⟨q0 + 1, 1, none⟩ = some (.int .u64 o.2.1) ∧ W5.cell? ⟨q0 + 1, 2, none⟩ = some (.int .u64 o.2.2.1) ∧ True ∧ loadT Try.prog (.pointer (some ⟨q0, 0, none⟩)) W5 = .ok (valT x) W5) ∧ Calls Try.prog 21 #[valT x, .int .u64 o.2.1, .int .u64 o.2.2.1] W5 fun e w' => e = .returned (chkV A2) ∧ Below W5.heap.size W5 w') := fun w4 b4 => by
    obtain ⟨W5, hs5, hb5, _⟩ := new_storeA w4 A1.1
    have hB5 : Below V3.heap.size V3 W5 := b4.trans (hb5.mono b4.size)
    obtain ⟨_, d1, d2, _, d4⟩ := (hW3.below hB5).ops
    have h := rCheck_any W5 x m ks o.2.1 o.2.2.1 (S3.ref.below hB5) (by omega)
    rw [hA2] at h
    exact ⟨W5, hs5, ⟨d1, d2, trivial, d4⟩, h⟩
  have HEND : Hid (∀ w4 W5 w6, Below V3.heap.size V3 w4 → storeA Try.prog (.pointer (some ⟨w4.heap.size, 0, none⟩)) (valA A1.1) (w4.alloc zA) = .ok () W5 → Below W5.heap.size W5 w6 → ∃ w7 W, storeA Try.prog (.pointer (some ⟨w6.heap.size, 0, none⟩)) (valA A2.1) (w6.alloc zA) = .ok () w7 ∧ storeT Try.prog (.pointer (some ⟨q0 + 1 + 1, 0, none⟩)) (valT x) w7.drew = .ok () W ∧ (loadA Try.prog (.pointer (some ⟨w4.heap.size, 0, none⟩)) w7.drew = .ok (valA A1.1) w7.drew ∧ loadA Try.prog (.pointer (some ⟨w6.heap.size, 0, none⟩)) w7.drew = .ok (valA A2.1) w7.drew ∧ loadT Try.prog (.pointer (some ⟨q0, 0, none⟩)) w7.drew = .ok (valT x) w7.drew) ∧ (loadA Try.prog (.pointer (some ⟨w4.heap.size, 0, none⟩)) W = .ok (valA A1.1) W ∧ loadA Try.prog (.pointer (some ⟨w6.heap.size, 0, none⟩)) W = .ok (valA A2.1) W ∧ loadT Try.prog (.pointer (some ⟨q0, 0, none⟩)) W = .ok (valT x) W) ∧ Hid (CAt W (q0 + 1 + 1) 0 (cellsT x) ∧ DSt B W p v l x m ks ∧ Upd (TF p v) w W)) := fun w4 W5 w6 b4 hs5 b6 => by
    obtain ⟨W5', hs5', hb5, hc5⟩ := new_storeA w4 A1.1
    rw [hs5] at hs5'
    injection hs5' with _ e5
    subst e5
    obtain ⟨w7, hs7, hb7, hc7⟩ := new_storeA w6 A2.1
    have z4 := b4.size
    have z5 := hb5.size
    have z6 := b6.size
    have z7 := hb7.size
    have hd7 : Below w7.heap.size w7 w7.drew := (Below.refl _ w7).drew
    have hB5 : Below V3.heap.size V3 W5 := b4.trans (hb5.mono b4.size)
    have hB7 : Below V3.heap.size V3 w7.drew := ((hB5.trans (b6.mono (by omega))).trans (hb7.mono (by omega))).trans (hd7.mono (by omega))
    have hW7 := hW3.below hB7
    obtain ⟨W, hst, hcW, huW⟩ := hW7.store x
    have k4 : w7.drew.heap[w4.heap.size]? = some (.cells (cellsA A1.1).toArray 32) := heap_own hd7 (by have := lt_of_heap hc5; omega) (heap_own hb7 (by have := lt_of_heap hc5; omega) (heap_own b6 (lt_of_heap hc5) hc5))
    have k6 : w7.drew.heap[w6.heap.size]? = some (.cells (cellsA A2.1).toArray 32) := heap_own hd7 (lt_of_heap hc7) hc7
    have kW : ∀ (k : Nat) (ob : Obj), k ≠ q0 + 1 + 1 → w7.drew.heap[k]? = some ob → W.heap[k]? = some ob := fun k ob hne h => (huW.block k (lt_of_heap h) hne).trans h
    exact ⟨w7, W, hs7, hst, ⟨own_loadA k4, own_loadA k6, own_loadT hW7.box⟩, ⟨own_loadA (kW _ _ (by omega) k4), own_loadA (kW _ _ (by omega) k6), own_loadT (kW _ _ (by omega) hW7.box)⟩, hcW, (S3.below hB7).upd huW (fun k hk e => by have := hTlt k hk; have : k = q0 + 1 + 1 := e; omega) (fun g hg e => by have := hXlt g hg; have : g = q0 + 1 + 1 := e; omega), ((upd_of_below hb3).trans (upd_of_below (F := fun _ => False) hB7) (fun _ _ h => h.elim)).trans huW (fun k hk e => by have : k = q0 + 1 + 1 := e; omega)⟩
  have hx := S.ref.1
  unfold DoEnd
  have eM : doM m o = m := by unfold doM; rw [if_neg (by rw [ho]; decide)]
  have eK : doK m ks o = ks := by unfold doK; rw [if_neg (by rw [ho]; decide)]
  have eL : doL l o = l := by unfold doL; rw [if_neg (by rw [ho]; decide), if_pos ho]
  have eB : doB l m ks o = (A1.1 == A2.1 && (A1.2.1 == A2.2.1 && A1.2.2 == A2.2.2)) := by unfold doB; rw [if_neg (by rw [ho]; decide), if_pos ho, hA1, hA2]
  rw [eM, eK, eL, eB]
  clear eM eK eL eB S S3 hW3 hb3 hTlt hXlt hA1 hA2
  obtain ⟨m', ad0, n0, cap0⟩ := x
  obtain ⟨kd, id, seq, a⟩ := o
  obtain ⟨a1, r1, f1⟩ := A1
  obtain ⟨a2, r2, f2⟩ := A2
  simp only at *
  subst ho
  subst hx
  have heq := fun W => eqA a1 a2 W
  obtain ⟨bR, hbR⟩ : ∃ b, (a1 == a2 && (r1 == r2 && f1 == f2)) = b := ⟨_, rfl⟩
  rw [hbR]
  unfold zT at hV3
  unfold zA at HR HEND
  unfold valT at hld HR HEND ⊢
  unfold valA at hla HR HEND heq
  unfold chkV valA at HK HR
  unfold valO
  simp only [cellsO, cellsT] at hV3
  by_cases g1 : (a1 == a2) = true
  · rw [g1] at hbR heq
    by_cases g2 : (r1 == r2) = true
    · rw [g2] at hbR
      simp only [Bool.true_and] at hbR
      subst hbR
      have g3 := eq_of_beq g2
      subst g3
      go_enter Try.func11, Try.ntmps11
      go_wp2_with (first
        | (go_at_call 17; go_loud (refine HK.mono ?_; rintro e w4 ⟨rfl, hb4⟩; obtain ⟨W5, hs5, ⟨d1, d2, _, d4⟩, HRC⟩ := HR.out w4 hb4; have H4 : Hid (Below V3.heap.size V3 w4) := hb4; clear hb4))
        | (go_at_call 21; go_loud (refine HRC.mono ?_; rintro e w6 ⟨rfl, hb6⟩; obtain ⟨w7, W, hs7, hst, hSW7, hSW, HF⟩ := HEND.out w4 W5 w6 H4.out hs5 hb6; clear hb6 HRC)))
      refine region_at (S := fun W' => loadA Try.prog (.pointer (some ⟨w4.heap.size, 0, none⟩)) W' = .ok (.agg #[.int .i64 a1.1, .int .u64 a1.2.1, .int .i64 a1.2.2]) W' ∧ loadA Try.prog (.pointer (some ⟨w6.heap.size, 0, none⟩)) W' = .ok (.agg #[.int .i64 a2.1, .int .u64 a2.2.1, .int .i64 a2.2.2]) W' ∧ loadT Try.prog (.pointer (some ⟨q0, 0, none⟩)) W' = .ok (.agg #[.int .u64 m, .slice ad0 n0 cap0]) W') 16 rfl mixedP hSW7 (fun _ => ?_)
      refine take_at (i := 0) (v := .agg #[.int .u64 m, .slice ad0 n0 cap0]) 68 rfl rfl (by kernel_rfl) (by kernel_rfl) (by kernel_rfl) (fun _ _ _ h => h) (by rfl) (fun w hSw => by refine (exec_load_T _ _ _ _ _ _ _ _).trans ?_; show (loadT Try.prog (.pointer (some ⟨q0, 0, none⟩)) w).andThen _ = _; rw [hSw.2.2]; rfl) (by assumption) ?_
      simp only [List.setIfInBounds_toArray, List.set_cons_zero, List.set_cons_succ]
      refine take_at (i := 1) (v := .agg #[.int .i64 a1.1, .int .u64 a1.2.1, .int .i64 a1.2.2]) 69 rfl rfl (by kernel_rfl) (by kernel_rfl) (by kernel_rfl) (fun _ _ _ h => h) (by rfl) (fun w hSw => by refine (exec_load_A _ _ _ _ _ _ _ _).trans ?_; show (loadA Try.prog (.pointer (some ⟨w4.heap.size, 0, none⟩)) w).andThen _ = _; rw [hSw.1]; rfl) (by assumption) ?_
      simp only [List.setIfInBounds_toArray, List.set_cons_zero, List.set_cons_succ]
      refine take_at (i := 2) (v := .agg #[.int .i64 a2.1, .int .u64 a2.2.1, .int .i64 a2.2.2]) 70 rfl rfl (by kernel_rfl) (by kernel_rfl) (by kernel_rfl) (fun _ _ _ h => h) (by rfl) (fun w hSw => by refine (exec_load_A _ _ _ _ _ _ _ _).trans ?_; show (loadA Try.prog (.pointer (some ⟨w6.heap.size, 0, none⟩)) w).andThen _ = _; rw [hSw.2.1]; rfl) (by assumption) ?_
      simp only [List.setIfInBounds_toArray, List.set_cons_zero, List.set_cons_succ]
      refine take_at (i := 3) (v := .bool true) 71 rfl rfl (by kernel_rfl) (by kernel_rfl) (by kernel_rfl) (fun _ _ _ h => h) (by rfl) (fun w hSw => by clear hSw; go_simp; first | done | exact rfl) (by assumption) ?_
      simp only [List.setIfInBounds_toArray, List.set_cons_zero, List.set_cons_succ]
      refine take_at (i := 4) 72 rfl rfl (by kernel_rfl) (by kernel_rfl) (by kernel_rfl) (fun _ _ _ h => h) (by rfl) (fun w hSw => by (have hSw2 := And.left hSw; clear hSw; go_simp; first | done | exact rfl)) (by assumption) ?_
      simp only [List.setIfInBounds_toArray, List.set_cons_zero, List.set_cons_succ]
      refine take_at (i := 5) 73 rfl rfl (by kernel_rfl) (by kernel_rfl) (by kernel_rfl) (fun _ _ _ h => h) (by rfl) (fun w hSw => by (have hSw2 := And.left hSw; clear hSw; go_simp; first | done | exact rfl)) (by assumption) ?_
      simp only [List.setIfInBounds_toArray, List.set_cons_zero, List.set_cons_succ]
      refine take_at (i := 6) 74 rfl rfl (by kernel_rfl) (by kernel_rfl) (by kernel_rfl) (fun _ _ _ h => h) (by rfl) (fun w hSw => by (have hSw2 := And.left hSw; clear hSw; go_simp; first | done | exact rfl)) (by assumption) ?_
      simp only [List.setIfInBounds_toArray, List.set_cons_zero, List.set_cons_succ]
      refine take_at (i := 7) (v := .bool true) 75 rfl rfl (by kernel_rfl) (by kernel_rfl) (by kernel_rfl) (fun _ _ _ h => h) (by rfl) (fun w hSw => by clear hSw; go_simp; first | done | exact rfl) (by assumption) ?_
      simp only [List.setIfInBounds_toArray, List.set_cons_zero, List.set_cons_succ]
      refine take_at (i := 8) (v := .bool true) 76 rfl rfl (by kernel_rfl) (by kernel_rfl) (by kernel_rfl) (fun _ _ _ h => h) (by rfl) (fun w hSw => by clear hSw; go_simp; first | done | exact rfl) (by assumption) ?_
      simp only [List.setIfInBounds_toArray, List.set_cons_zero, List.set_cons_succ]
      refine take_at (i := 9) 77 rfl rfl (by kernel_rfl) (by kernel_rfl) (by kernel_rfl) (fun _ _ _ h => h) (by rfl) (fun w hSw => by (have hSw2 := And.left hSw; clear hSw; go_simp; first | done | exact rfl)) (by assumption) ?_
      simp only [List.setIfInBounds_toArray, List.set_cons_zero, List.set_cons_succ]
      refine take_at (i := 10) 78 rfl rfl (by kernel_rfl) (by kernel_rfl) (by kernel_rfl) (fun _ _ _ h => h) (by rfl) (fun w hSw => by (have hSw2 := And.left hSw; clear hSw; go_simp; first | done | exact rfl)) (by assumption) ?_
      simp only [List.setIfInBounds_toArray, List.set_cons_zero, List.set_cons_succ]
      refine take_at (i := 11) 79 rfl rfl (by kernel_rfl) (by kernel_rfl) (by kernel_rfl) (fun _ _ _ h => h) (by rfl) (fun w hSw => by (have hSw2 := And.left hSw; clear hSw; go_simp; first | done | exact rfl)) (by assumption) ?_
      simp only [List.setIfInBounds_toArray, List.set_cons_zero, List.set_cons_succ]
      refine take_at (i := 12) (v := .bool (f1 == f2)) 80 rfl rfl (by kernel_rfl) (by kernel_rfl) (by kernel_rfl) (fun _ _ _ h => h) (by rfl) (fun w hSw => by clear hSw; go_simp; first | done | exact rfl) (by assumption) ?_
      simp only [List.setIfInBounds_toArray, List.set_cons_zero, List.set_cons_succ]
      refine take_at (i := 13) (v := .bool (f1 == f2)) 81 rfl rfl (by kernel_rfl) (by kernel_rfl) (by kernel_rfl) (fun _ _ _ h => h) (by rfl) (fun w hSw => by clear hSw; go_simp; first | done | exact rfl) (by assumption) ?_
      simp only [List.setIfInBounds_toArray, List.set_cons_zero, List.set_cons_succ]
      refine one_skip (i := 14) (w' := W) (by kernel_rfl) rfl rfl (by kernel_rfl) (by refine (exec_store_T _ _ _ _ _ _ _ _ _).trans ?_; show (storeT Try.prog (.pointer (some ⟨q0 + 1 + 1, 0, none⟩)) (.agg #[.int .u64 m, .slice ad0 n0 cap0]) w7.drew).andThen _ = _; rw [hst]; rfl) hSW (fun _ => ?_)
      refine one_value (i := 15) (v := .bool (f1 == f2)) (w' := W) 7 (by kernel_rfl) rfl rfl (by kernel_rfl) (by kernel_rfl) hSW (fun _ => ?_)
      simp only [List.setIfInBounds_toArray, List.set_cons_zero, List.set_cons_succ]
      refine wpAnyH_done (by kernel_rfl) ?_ _
      go_wp2
      refine bodyPost_ret (do_results rfl HF.out.1) rfl ?_
      exact ⟨_, _, _, v, rfl, HF.out.2.1, HF.out.2.2, .inl rfl⟩
    · rw [Bool.not_eq_true] at g2
      rw [g2] at hbR
      simp only [Bool.false_and, Bool.true_and] at hbR
      subst hbR
      go_enter Try.func11, Try.ntmps11
      go_wp2_with (first
        | (go_at_call 17; go_loud (refine HK.mono ?_; rintro e w4 ⟨rfl, hb4⟩; obtain ⟨W5, hs5, ⟨d1, d2, _, d4⟩, HRC⟩ := HR.out w4 hb4; have H4 : Hid (Below V3.heap.size V3 w4) := hb4; clear hb4))
        | (go_at_call 21; go_loud (refine HRC.mono ?_; rintro e w6 ⟨rfl, hb6⟩; obtain ⟨w7, W, hs7, hst, hSW7, hSW, HF⟩ := HEND.out w4 W5 w6 H4.out hs5 hb6; clear hb6 HRC)))
      refine region_at (S := fun W' => loadA Try.prog (.pointer (some ⟨w4.heap.size, 0, none⟩)) W' = .ok (.agg #[.int .i64 a1.1, .int .u64 a1.2.1, .int .i64 a1.2.2]) W' ∧ loadA Try.prog (.pointer (some ⟨w6.heap.size, 0, none⟩)) W' = .ok (.agg #[.int .i64 a2.1, .int .u64 a2.2.1, .int .i64 a2.2.2]) W' ∧ loadT Try.prog (.pointer (some ⟨q0, 0, none⟩)) W' = .ok (.agg #[.int .u64 m, .slice ad0 n0 cap0]) W') 16 rfl mixedP hSW7 (fun _ => ?_)
      refine take_at (i := 0) (v := .agg #[.int .u64 m, .slice ad0 n0 cap0]) 68 rfl rfl (by kernel_rfl) (by kernel_rfl) (by kernel_rfl) (fun _ _ _ h => h) (by rfl) (fun w hSw => by refine (exec_load_T _ _ _ _ _ _ _ _).trans ?_; show (loadT Try.prog (.pointer (some ⟨q0, 0, none⟩)) w).andThen _ = _; rw [hSw.2.2]; rfl) (by assumption) ?_
      simp only [List.setIfInBounds_toArray, List.set_cons_zero, List.set_cons_succ]
      refine take_at (i := 1) (v := .agg #[.int .i64 a1.1, .int .u64 a1.2.1, .int .i64 a1.2.2]) 69 rfl rfl (by kernel_rfl) (by kernel_rfl) (by kernel_rfl) (fun _ _ _ h => h) (by rfl) (fun w hSw => by refine (exec_load_A _ _ _ _ _ _ _ _).trans ?_; show (loadA Try.prog (.pointer (some ⟨w4.heap.size, 0, none⟩)) w).andThen _ = _; rw [hSw.1]; rfl) (by assumption) ?_
      simp only [List.setIfInBounds_toArray, List.set_cons_zero, List.set_cons_succ]
      refine take_at (i := 2) (v := .agg #[.int .i64 a2.1, .int .u64 a2.2.1, .int .i64 a2.2.2]) 70 rfl rfl (by kernel_rfl) (by kernel_rfl) (by kernel_rfl) (fun _ _ _ h => h) (by rfl) (fun w hSw => by refine (exec_load_A _ _ _ _ _ _ _ _).trans ?_; show (loadA Try.prog (.pointer (some ⟨w6.heap.size, 0, none⟩)) w).andThen _ = _; rw [hSw.2.1]; rfl) (by assumption) ?_
      simp only [List.setIfInBounds_toArray, List.set_cons_zero, List.set_cons_succ]
      refine take_at (i := 3) (v := .bool true) 71 rfl rfl (by kernel_rfl) (by kernel_rfl) (by kernel_rfl) (fun _ _ _ h => h) (by rfl) (fun w hSw => by clear hSw; go_simp; first | done | exact rfl) (by assumption) ?_
      simp only [List.setIfInBounds_toArray, List.set_cons_zero, List.set_cons_succ]
      refine take_at (i := 4) 72 rfl rfl (by kernel_rfl) (by kernel_rfl) (by kernel_rfl) (fun _ _ _ h => h) (by rfl) (fun w hSw => by (have hSw2 := And.left hSw; clear hSw; go_simp; first | done | exact rfl)) (by assumption) ?_
      simp only [List.setIfInBounds_toArray, List.set_cons_zero, List.set_cons_succ]
      refine take_at (i := 5) 73 rfl rfl (by kernel_rfl) (by kernel_rfl) (by kernel_rfl) (fun _ _ _ h => h) (by rfl) (fun w hSw => by (have hSw2 := And.left hSw; clear hSw; go_simp; first | done | exact rfl)) (by assumption) ?_
      simp only [List.setIfInBounds_toArray, List.set_cons_zero, List.set_cons_succ]
      refine take_at (i := 6) 74 rfl rfl (by kernel_rfl) (by kernel_rfl) (by kernel_rfl) (fun _ _ _ h => h) (by rfl) (fun w hSw => by (have hSw2 := And.left hSw; clear hSw; go_simp; first | done | exact rfl)) (by assumption) ?_
      simp only [List.setIfInBounds_toArray, List.set_cons_zero, List.set_cons_succ]
      refine take_at (i := 7) (v := .bool false) 75 rfl rfl (by kernel_rfl) (by kernel_rfl) (by kernel_rfl) (fun _ _ _ h => h) (by rfl) (fun w hSw => by clear hSw; go_simp; first | done | exact rfl) (by assumption) ?_
      simp only [List.setIfInBounds_toArray, List.set_cons_zero, List.set_cons_succ]
      refine take_at (i := 8) (v := .bool false) 76 rfl rfl (by kernel_rfl) (by kernel_rfl) (by kernel_rfl) (fun _ _ _ h => h) (by rfl) (fun w hSw => by clear hSw; go_simp; first | done | exact rfl) (by assumption) ?_
      simp only [List.setIfInBounds_toArray, List.set_cons_zero, List.set_cons_succ]
      refine take_at (i := 9) 77 rfl rfl (by kernel_rfl) (by kernel_rfl) (by kernel_rfl) (fun _ _ _ h => h) (by rfl) (fun w hSw => by (have hSw2 := And.left hSw; clear hSw; go_simp; first | done | exact rfl)) (by assumption) ?_
      simp only [List.setIfInBounds_toArray, List.set_cons_zero, List.set_cons_succ]
      refine pass_at (i := 10) 78 rfl rfl (by kernel_rfl) (by kernel_rfl) (by kernel_rfl) (fun _ _ _ h => h) (by rfl) (by assumption) ?_
      simp only [List.setIfInBounds_toArray, List.set_cons_zero, List.set_cons_succ]
      refine pass_at (i := 11) 79 rfl rfl (by kernel_rfl) (by kernel_rfl) (by kernel_rfl) (fun _ _ _ h => h) (by rfl) (by assumption) ?_
      simp only [List.setIfInBounds_toArray, List.set_cons_zero, List.set_cons_succ]
      refine pass_at (i := 12) 80 rfl rfl (by kernel_rfl) (by kernel_rfl) (by kernel_rfl) (fun _ _ _ h => h) (by rfl) (by assumption) ?_
      simp only [List.setIfInBounds_toArray, List.set_cons_zero, List.set_cons_succ]
      refine take_at (i := 13) (v := .bool false) 81 rfl rfl (by kernel_rfl) (by kernel_rfl) (by kernel_rfl) (fun _ _ _ h => h) (by rfl) (fun w hSw => by clear hSw; go_simp; first | done | exact rfl) (by assumption) ?_
      simp only [List.setIfInBounds_toArray, List.set_cons_zero, List.set_cons_succ]
      refine one_skip (i := 14) (w' := W) (by kernel_rfl) rfl rfl (by kernel_rfl) (by refine (exec_store_T _ _ _ _ _ _ _ _ _).trans ?_; show (storeT Try.prog (.pointer (some ⟨q0 + 1 + 1, 0, none⟩)) (.agg #[.int .u64 m, .slice ad0 n0 cap0]) w7.drew).andThen _ = _; rw [hst]; rfl) hSW (fun _ => ?_)
      refine one_value (i := 15) (v := .bool false) (w' := W) 7 (by kernel_rfl) rfl rfl (by kernel_rfl) (by kernel_rfl) hSW (fun _ => ?_)
      simp only [List.setIfInBounds_toArray, List.set_cons_zero, List.set_cons_succ]
      refine wpAnyH_done (by kernel_rfl) ?_ _
      go_wp2
      refine bodyPost_ret (do_results rfl HF.out.1) rfl ?_
      exact ⟨_, _, _, v, rfl, HF.out.2.1, HF.out.2.2, .inl rfl⟩
  · rw [Bool.not_eq_true] at g1
    rw [g1] at hbR heq
    simp only [Bool.false_and] at hbR
    subst hbR
    go_enter Try.func11, Try.ntmps11
    go_wp2_with (first
      | (go_at_call 17; go_loud (refine HK.mono ?_; rintro e w4 ⟨rfl, hb4⟩; obtain ⟨W5, hs5, ⟨d1, d2, _, d4⟩, HRC⟩ := HR.out w4 hb4; have H4 : Hid (Below V3.heap.size V3 w4) := hb4; clear hb4))
      | (go_at_call 21; go_loud (refine HRC.mono ?_; rintro e w6 ⟨rfl, hb6⟩; obtain ⟨w7, W, hs7, hst, hSW7, hSW, HF⟩ := HEND.out w4 W5 w6 H4.out hs5 hb6; clear hb6 HRC)))
    refine region_at (S := fun W' => loadA Try.prog (.pointer (some ⟨w4.heap.size, 0, none⟩)) W' = .ok (.agg #[.int .i64 a1.1, .int .u64 a1.2.1, .int .i64 a1.2.2]) W' ∧ loadA Try.prog (.pointer (some ⟨w6.heap.size, 0, none⟩)) W' = .ok (.agg #[.int .i64 a2.1, .int .u64 a2.2.1, .int .i64 a2.2.2]) W' ∧ loadT Try.prog (.pointer (some ⟨q0, 0, none⟩)) W' = .ok (.agg #[.int .u64 m, .slice ad0 n0 cap0]) W') 16 rfl mixedP hSW7 (fun _ => ?_)
    refine take_at (i := 0) (v := .agg #[.int .u64 m, .slice ad0 n0 cap0]) 68 rfl rfl (by kernel_rfl) (by kernel_rfl) (by kernel_rfl) (fun _ _ _ h => h) (by rfl) (fun w hSw => by refine (exec_load_T _ _ _ _ _ _ _ _).trans ?_; show (loadT Try.prog (.pointer (some ⟨q0, 0, none⟩)) w).andThen _ = _; rw [hSw.2.2]; rfl) (by assumption) ?_
    simp only [List.setIfInBounds_toArray, List.set_cons_zero, List.set_cons_succ]
    refine take_at (i := 1) (v := .agg #[.int .i64 a1.1, .int .u64 a1.2.1, .int .i64 a1.2.2]) 69 rfl rfl (by kernel_rfl) (by kernel_rfl) (by kernel_rfl) (fun _ _ _ h => h) (by rfl) (fun w hSw => by refine (exec_load_A _ _ _ _ _ _ _ _).trans ?_; show (loadA Try.prog (.pointer (some ⟨w4.heap.size, 0, none⟩)) w).andThen _ = _; rw [hSw.1]; rfl) (by assumption) ?_
    simp only [List.setIfInBounds_toArray, List.set_cons_zero, List.set_cons_succ]
    refine take_at (i := 2) (v := .agg #[.int .i64 a2.1, .int .u64 a2.2.1, .int .i64 a2.2.2]) 70 rfl rfl (by kernel_rfl) (by kernel_rfl) (by kernel_rfl) (fun _ _ _ h => h) (by rfl) (fun w hSw => by refine (exec_load_A _ _ _ _ _ _ _ _).trans ?_; show (loadA Try.prog (.pointer (some ⟨w6.heap.size, 0, none⟩)) w).andThen _ = _; rw [hSw.2.1]; rfl) (by assumption) ?_
    simp only [List.setIfInBounds_toArray, List.set_cons_zero, List.set_cons_succ]
    refine take_at (i := 3) (v := .bool false) 71 rfl rfl (by kernel_rfl) (by kernel_rfl) (by kernel_rfl) (fun _ _ _ h => h) (by rfl) (fun w hSw => by clear hSw; go_simp; first | done | exact rfl) (by assumption) ?_
    simp only [List.setIfInBounds_toArray, List.set_cons_zero, List.set_cons_succ]
    refine take_at (i := 4) 72 rfl rfl (by kernel_rfl) (by kernel_rfl) (by kernel_rfl) (fun _ _ _ h => h) (by rfl) (fun w hSw => by (have hSw2 := And.left hSw; clear hSw; go_simp; first | done | exact rfl)) (by assumption) ?_
    simp only [List.setIfInBounds_toArray, List.set_cons_zero, List.set_cons_succ]
    refine pass_at (i := 5) 73 rfl rfl (by kernel_rfl) (by kernel_rfl) (by kernel_rfl) (fun _ _ _ h => h) (by rfl) (by assumption) ?_
    simp only [List.setIfInBounds_toArray, List.set_cons_zero, List.set_cons_succ]
    refine pass_at (i := 6) 74 rfl rfl (by kernel_rfl) (by kernel_rfl) (by kernel_rfl) (fun _ _ _ h => h) (by rfl) (by assumption) ?_
    simp only [List.setIfInBounds_toArray, List.set_cons_zero, List.set_cons_succ]
    refine pass_at (i := 7) 75 rfl rfl (by kernel_rfl) (by kernel_rfl) (by kernel_rfl) (fun _ _ _ h => h) (by rfl) (by assumption) ?_
    simp only [List.setIfInBounds_toArray, List.set_cons_zero, List.set_cons_succ]
    refine take_at (i := 8) (v := .bool false) 76 rfl rfl (by kernel_rfl) (by kernel_rfl) (by kernel_rfl) (fun _ _ _ h => h) (by rfl) (fun w hSw => by clear hSw; go_simp; first | done | exact rfl) (by assumption) ?_
    simp only [List.setIfInBounds_toArray, List.set_cons_zero, List.set_cons_succ]
    refine take_at (i := 9) 77 rfl rfl (by kernel_rfl) (by kernel_rfl) (by kernel_rfl) (fun _ _ _ h => h) (by rfl) (fun w hSw => by (have hSw2 := And.left hSw; clear hSw; go_simp; first | done | exact rfl)) (by assumption) ?_
    simp only [List.setIfInBounds_toArray, List.set_cons_zero, List.set_cons_succ]
    refine pass_at (i := 10) 78 rfl rfl (by kernel_rfl) (by kernel_rfl) (by kernel_rfl) (fun _ _ _ h => h) (by rfl) (by assumption) ?_
    simp only [List.setIfInBounds_toArray, List.set_cons_zero, List.set_cons_succ]
    refine pass_at (i := 11) 79 rfl rfl (by kernel_rfl) (by kernel_rfl) (by kernel_rfl) (fun _ _ _ h => h) (by rfl) (by assumption) ?_
    simp only [List.setIfInBounds_toArray, List.set_cons_zero, List.set_cons_succ]
    refine pass_at (i := 12) 80 rfl rfl (by kernel_rfl) (by kernel_rfl) (by kernel_rfl) (fun _ _ _ h => h) (by rfl) (by assumption) ?_
    simp only [List.setIfInBounds_toArray, List.set_cons_zero, List.set_cons_succ]
    refine take_at (i := 13) (v := .bool false) 81 rfl rfl (by kernel_rfl) (by kernel_rfl) (by kernel_rfl) (fun _ _ _ h => h) (by rfl) (fun w hSw => by clear hSw; go_simp; first | done | exact rfl) (by assumption) ?_
    simp only [List.setIfInBounds_toArray, List.set_cons_zero, List.set_cons_succ]
    refine one_skip (i := 14) (w' := W) (by kernel_rfl) rfl rfl (by kernel_rfl) (by refine (exec_store_T _ _ _ _ _ _ _ _ _).trans ?_; show (storeT Try.prog (.pointer (some ⟨q0 + 1 + 1, 0, none⟩)) (.agg #[.int .u64 m, .slice ad0 n0 cap0]) w7.drew).andThen _ = _; rw [hst]; rfl) hSW (fun _ => ?_)
    refine one_value (i := 15) (v := .bool false) (w' := W) 7 (by kernel_rfl) rfl rfl (by kernel_rfl) (by kernel_rfl) hSW (fun _ => ?_)
    simp only [List.setIfInBounds_toArray, List.set_cons_zero, List.set_cons_succ]
    refine wpAnyH_done (by kernel_rfl) ?_ _
    go_wp2
    refine bodyPost_ret (do_results rfl HF.out.1) rfl ?_
    exact ⟨_, _, _, v, rfl, HF.out.2.1, HF.out.2.2, .inl rfl⟩
end Se
end Go.Proofs.Ytoiikmfdoadkpaa
