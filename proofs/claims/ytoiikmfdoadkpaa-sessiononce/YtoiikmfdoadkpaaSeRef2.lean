/- The reference's Open and Check. -/
import Derived.Test.YtoiikmfdoadkpaaSeRef
namespace Go.Proofs.Ytoiikmfdoadkpaa
open Go.RowKit Go.Lib
set_option maxRecDepth 100000
namespace Se
attribute [local go_sem ↓] exec_load_A exec_store_A exec_load_T exec_store_T exec_load_K exec_store_K
theorem ro_results {tmps : Array Value} {w : World} {rb : Nat} {x : Tb} (h2 : tmps.getD 2 undef = .pointer (some ⟨rb, 0, none⟩)) (c : CAt w rb 0 (cellsT x)) : (results Try.f20 tmps).run Try.prog w = .ok (.tuple #[valT x, tmps.getD 3 undef, tmps.getD 4 undef]) w := by
  have c0 := c 0 _ rfl
  have c1 := c 1 _ rfl
  simp only [Nat.add_zero] at c0
  have h2' : tmps[2]?.getD undef = .pointer (some ⟨rb, 0, none⟩) := by simpa using h2
  simp [results, Try.results20, go_sem, h2', c0, c1, valT]
/-- The table behind the reference's Open. -/
def ropenT (x : Tb) (m : Nat) : Tb := ((ropenM m : Nat), x.2)
theorem KAt.opened {w : World} {x : Tb} {m : Nat} {ks : List Kp} (K : KAt w x m ks) : KAt w (ropenT x m) (ropenM m) ks := ⟨rfl, K.2⟩
set_option maxHeartbeats 1000000 in
theorem rOpen_any (w : World) (x : Tb) (m : Nat) (ks : List Kp) (K : KAt w x m ks) (hm : m ≤ 1099511627776) : Calls Try.prog 20 #[valT x] w fun e w' => e = .returned (.tuple #[valT (ropenT x m), .int .u64 (ropenE m).1, .int .i64 (ropenE m).2]) ∧ Below w.heap.size w w' := by
  have hx := K.1
  clear K
  obtain ⟨m', ad, n', cap⟩ := x
  simp only at hx
  subst hx
  obtain ⟨q0, hq0⟩ : ∃ q, w.heap.size = q := ⟨_, rfl⟩
  obtain ⟨V1, hV1⟩ : ∃ V1, w.alloc (.cells #[.int .u64 m, .slice ad n' cap] 29) = V1 := ⟨_, rfl⟩
  have hb1 : Below w.heap.size w V1 := by rw [← hV1]; exact (Below.refl _ w).alloc (Nat.le_refl _) _
  have hn1 : V1.heap[q0]? = some (.cells #[.int .u64 m, .slice ad n' cap] 29) := by rw [← hV1, ← hq0]; exact alloc_newM _ _
  have e1 : V1.heap.size = q0 + 1 := by rw [← hV1, ← hq0]; simp
  obtain ⟨V2, hV2⟩ : ∃ V2, V1.alloc zT = V2 := ⟨_, rfl⟩
  have hb2 : Below V1.heap.size V1 V2 := by rw [← hV2]; exact (Below.refl _ V1).alloc (Nat.le_refl _) _
  have hn2 : V2.heap[q0 + 1]? = some zT := by rw [← hV2, ← e1]; exact alloc_newM _ _
  have hm1 : V2.heap[q0]? = some (.cells #[.int .u64 m, .slice ad n' cap] 29) := heap_own hb2 (lt_of_heap hn1) hn1
  have hwb : Below q0 w V2 := by rw [← hq0]; exact hb1.trans (hb2.mono (by omega))
  have c0 : V2.cell? ⟨q0, 0, none⟩ = some (.int .u64 m) := by simp [World.cell?, hm1]
  have f0 : V2.frozen? ⟨q0, 0, none⟩ = false := by simp [World.frozen?, hm1]
  unfold zT at hV2
  by_cases h1 : m < 4096
  · have hT : ropenT ((m : Int), ad, n', cap) m = ((m : Int) + 1, ad, n', cap) := by unfold ropenT ropenM; rw [if_pos h1]; rfl
    have hE : ropenE m = ((m : Int) + 1, 0) := if_pos h1
    rw [hT, hE]
    have h2 : (m : Int) < 4096 := by omega
    have hwr : IntKind.u64.wrap ((m : Int) + 1) = (m : Int) + 1 := by rw [IntKind.wrap_u64]; omega
    obtain ⟨V3, hV3⟩ : ∃ V3, V2.setCell ⟨q0, 0, none⟩ (.int .u64 ((m : Int) + 1)) = V3 := ⟨_, rfl⟩
    have hk1 : V3.heap[q0]? = some (.cells #[.int .u64 ((m : Int) + 1), .slice ad n' cap] 29) := by
      rw [← hV3]; simp [World.setCell, Array.getElem?_modify, hm1]
    have hu3 : Upd (fun k => k = q0) V2 V3 := by rw [← hV3]; exact Upd.setCell (F := fun k => k = q0) (Upd.refl _ _) (a := ⟨q0, 0, none⟩) rfl _
    have hk2 : V3.heap[q0 + 1]? = some zT := (hu3.block _ (lt_of_heap hn2) (by show ¬ q0 + 1 = q0; omega)).trans hn2
    obtain ⟨V4, hV4⟩ : ∃ V4, V3.drew = V4 := ⟨_, rfl⟩
    have hk1' : V4.heap[q0]? = some (.cells (cellsT ((m : Int) + 1, ad, n', cap)).toArray 29) := by rw [← hV4]; exact hk1
    have hk2' : V4.heap[q0 + 1]? = some zT := by rw [← hV4]; exact hk2
    obtain ⟨W, hst, huW, hcW⟩ := own_storeT (ys := [.int .u64 0, .slice none 0 0]) rfl hk2' ((m : Int) + 1, ad, n', cap)
    have HZ : Hid (CAt W (q0 + 1) 0 (cellsT ((m : Int) + 1, ad, n', cap))) := cat_new hcW
    have HB : Hid (Below q0 w W) := by
      have h3 := hu3.below (B := q0) (fun k e => by have : k = q0 := e; omega) (by have := lt_of_heap hm1; omega)
      have h4 : Below q0 V3 V4 := by rw [← hV4]; exact (Below.refl _ V3).drew
      have h5 := huW.below (B := q0) (fun k e => by have : k = q0 + 1 := e; omega) (by have := lt_of_heap hk1'; omega)
      exact ((hwb.trans h3).trans h4).trans h5
    have hkW : W.heap[q0]? = some (.cells (cellsT ((m : Int) + 1, ad, n', cap)).toArray 29) := (huW.block _ (lt_of_heap hk1') (by show ¬ q0 = q0 + 1; omega)).trans hk1'
    have hS0 : loadT Try.prog (.pointer (some ⟨q0, 0, none⟩)) V4 = .ok (valT ((m : Int) + 1, ad, n', cap)) V4 ∧ V4.cell? ⟨q0, 0, none⟩ = some (.int .u64 ((m : Int) + 1)) := ⟨own_loadT hk1', by simp [World.cell?, hk1', cellsT]⟩
    have hSW : loadT Try.prog (.pointer (some ⟨q0, 0, none⟩)) W = .ok (valT ((m : Int) + 1, ad, n', cap)) W ∧ W.cell? ⟨q0, 0, none⟩ = some (.int .u64 ((m : Int) + 1)) := ⟨own_loadT hkW, by simp [World.cell?, hkW, cellsT]⟩
    clear hb1 hb2 hn1 hn2 hm1 hwb hk1 hk2 hk1' hk2' hu3 huW hcW hkW hT hE h1 hm
    unfold valT at hst hS0 hSW ⊢
    go_enter Try.func20, Try.ntmps20
    go_wp2
    refine region_at (S := fun W' => loadT Try.prog (.pointer (some ⟨q0, 0, none⟩)) W' = .ok (.agg #[.int .u64 ((m : Int) + 1), .slice ad n' cap]) W' ∧ W'.cell? ⟨q0, 0, none⟩ = some (.int .u64 ((m : Int) + 1))) 6 rfl mixedP (by rw [hV4]; exact hS0) (fun _ => ?_)
    rw [hV4]
    clear hV4
    refine take_at (i := 0) (v := .agg #[.int .u64 ((m : Int) + 1), .slice ad n' cap]) 13 rfl rfl (by kernel_rfl) (by kernel_rfl) (by kernel_rfl) (fun _ _ _ h => h) (by rfl) (fun w hSw => by refine (exec_load_T _ _ _ _ _ _ _ _).trans ?_; show (loadT Try.prog (.pointer (some ⟨q0, 0, none⟩)) w).andThen _ = _; rw [hSw.1]; rfl) (by assumption) ?_
    simp only [List.setIfInBounds_toArray, List.set_cons_zero, List.set_cons_succ]
    refine take_at (i := 1) 14 rfl rfl (by kernel_rfl) (by kernel_rfl) (by kernel_rfl) (fun _ _ _ h => h) (by rfl) (fun w hSw => by (have hSw2 := And.right hSw; clear hSw; go_simp; first | done | exact rfl)) (by assumption) ?_
    simp only [List.setIfInBounds_toArray, List.set_cons_zero, List.set_cons_succ]
    refine take_at (i := 2) 15 rfl rfl (by kernel_rfl) (by kernel_rfl) (by kernel_rfl) (fun _ _ _ h => h) (by rfl) (fun w hSw => by (have hSw2 := And.right hSw; clear hSw; go_simp; first | done | exact rfl)) (by assumption) ?_
    simp only [List.setIfInBounds_toArray, List.set_cons_zero, List.set_cons_succ]
    refine one_skip (i := 3) (w' := W) (by kernel_rfl) rfl rfl (by kernel_rfl) (by refine (exec_store_T _ _ _ _ _ _ _ _ _).trans ?_; show (storeT Try.prog (.pointer (some ⟨q0 + 1, 0, none⟩)) (.agg #[.int .u64 ((m : Int) + 1), .slice ad n' cap]) V4).andThen _ = _; rw [hst]; rfl) hSW (fun _ => ?_)
    refine one_value (i := 4) (v := .int .u64 ((m : Int) + 1)) (w' := W) 3 (by kernel_rfl) rfl rfl (by kernel_rfl) (by kernel_rfl) hSW (fun _ => ?_)
    simp only [List.setIfInBounds_toArray, List.set_cons_zero, List.set_cons_succ]
    refine one_value (i := 5) (v := .int .i64 0) (w' := W) 4 (by kernel_rfl) rfl rfl (by kernel_rfl) (by kernel_rfl) hSW (fun _ => ?_)
    simp only [List.setIfInBounds_toArray, List.set_cons_zero, List.set_cons_succ]
    refine wpAnyH_done (by kernel_rfl) ?_ _
    go_wp2
    refine bodyPost_ret (ro_results rfl HZ.out) rfl ?_
    exact ⟨rfl, by first | exact HB.out | (rw [hq0]; exact HB.out)⟩
  · have hT : ropenT ((m : Int), ad, n', cap) m = ((m : Int), ad, n', cap) := by unfold ropenT ropenM; rw [if_neg h1]
    have hE : ropenE m = (0, 152) := if_neg h1
    rw [hT, hE]
    have h2 : (4096 : Int) ≤ (m : Int) := by omega
    obtain ⟨W, hst, huW, hcW⟩ := own_storeT (ys := [.int .u64 0, .slice none 0 0]) rfl hn2 ((m : Int), ad, n', cap)
    have HZ : Hid (CAt W (q0 + 1) 0 (cellsT ((m : Int), ad, n', cap))) := cat_new hcW
    have HB : Hid (Below q0 w W) := hwb.trans (huW.below (B := q0) (fun k e => by have : k = q0 + 1 := e; omega) (by have := lt_of_heap hm1; omega))
    have hld : loadT Try.prog (.pointer (some ⟨q0, 0, none⟩)) V2 = .ok (valT ((m : Int), ad, n', cap)) V2 := own_loadT hm1
    clear hb1 hb2 hn1 hn2 hm1 hwb huW hcW hT hE h1 hm
    unfold valT at hst hld ⊢
    go_enter Try.func20, Try.ntmps20
    go_wp2
    refine bodyPost_ret (ro_results rfl HZ.out) rfl ?_
    exact ⟨rfl, by first | exact HB.out | (rw [hq0]; exact HB.out)⟩
end Se
end Go.Proofs.Ytoiikmfdoadkpaa
