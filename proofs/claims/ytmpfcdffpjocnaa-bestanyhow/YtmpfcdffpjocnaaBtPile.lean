/- The pile of a keeper: Len, Less, Swap. -/
import Derived.Test.YtmpfcdffpjocnaaBtRows
import Derived.Deep.Cut
import Derived.Handy
import Derived.WalkSmall
import Derived.Shelf.SlSortCmp.KitK
namespace Go.Proofs.Ytmpfcdffpjocnaa
open Go.RowKit Go.Lib Nums Pm
set_option maxRecDepth 100000
namespace Bt
theorem Plen_any (w : World) (ad : Option Addr) (n cap : Nat) : Calls Try.prog 25 #[.slice ad n cap] w fun e w' => e = .returned (.int .i64 n) ∧ w' = w := by
  go_enter Try.func25, Try.ntmps25
  go_wp2
  go_ret
  exact ⟨rfl, rfl⟩
/-- Two matches of a row. -/
structure S2 (g a b : Nat) (x y : Mt) (W : World) : Prop where
  a0 : W.cell? ⟨g, a, none⟩ = some (.string x.1)
  a1 : W.cell? ⟨g, a + 1, none⟩ = some (.int .i64 x.2.1)
  a2 : W.cell? ⟨g, a + 2, none⟩ = some (.int .i64 x.2.2)
  b0 : W.cell? ⟨g, b, none⟩ = some (.string y.1)
  b1 : W.cell? ⟨g, b + 1, none⟩ = some (.int .i64 y.2.1)
  b2 : W.cell? ⟨g, b + 2, none⟩ = some (.int .i64 y.2.2)
theorem S2.facts {g a b : Nat} {x y : Mt} {W : World} (h : S2 g a b x y W) : W.cell? ⟨g, a, none⟩ = some (.string x.1) ∧ W.cell? ⟨g, a + 1, none⟩ = some (.int .i64 x.2.1) ∧ W.cell? ⟨g, a + 2, none⟩ = some (.int .i64 x.2.2) ∧ W.cell? ⟨g, b, none⟩ = some (.string y.1) ∧ W.cell? ⟨g, b + 1, none⟩ = some (.int .i64 y.2.1) ∧ W.cell? ⟨g, b + 2, none⟩ = some (.int .i64 y.2.2) := ⟨h.a0, h.a1, h.a2, h.b0, h.b1, h.b2⟩
theorem S2.below {g a b : Nat} {x y : Mt} {W W' : World} (h : S2 g a b x y W) (hg : g < W.heap.size) (hb : Below W.heap.size W W') : S2 g a b x y W' :=
  ⟨(hb.cell (p := ⟨g, a, none⟩) hg).trans h.a0, (hb.cell (p := ⟨g, a + 1, none⟩) hg).trans h.a1, (hb.cell (p := ⟨g, a + 2, none⟩) hg).trans h.a2, (hb.cell (p := ⟨g, b, none⟩) hg).trans h.b0, (hb.cell (p := ⟨g, b + 1, none⟩) hg).trans h.b1, (hb.cell (p := ⟨g, b + 2, none⟩) hg).trans h.b2⟩
set_option maxHeartbeats 1000000 in
theorem Less_any (B : Nat) (w : World) (v : Value) (h : List Mt) (H : GOwn 23 3 B w v (h.map cellsM)) (i j : Nat) (hi : i < h.length) (hj : j < h.length) (hl : h.length < 4611686018427387904) :
    Calls Try.prog 45 #[v, .int .i64 i, .int .i64 j] w fun e w' => e = .returned (.bool (btr (el h j) (el h i))) ∧ Below w.heap.size w w' := by
  obtain ⟨g, cap, rfl, hg, _, hcap, hc⟩ := GOwn.mt H (by omega)
  obtain ⟨i0, i1, i2, _⟩ := hc i hi
  obtain ⟨j0, j1, j2, _⟩ := hc j hj
  have hS0 : S2 g (j * 3) (i * 3) (el h j) (el h i) w.drew := ⟨j0, j1, j2, i0, i1, i2⟩
  have HB := fun W => Better_any (el h j) (el h i) W
  have hiz : (i : Int) < (h.length : Int) := by omega
  have hjz : (j : Int) < (h.length : Int) := by omega
  generalize el h j = y at HB hS0 ⊢
  generalize el h i = x at HB hS0 ⊢
  generalize h.length = n at hiz hjz hcap hl ⊢
  clear H hc i0 i1 i2 j0 j1 j2 hi hj
  go_enter Try.func45, Try.ntmps45
  go_wp2_with fail
  refine region_at (S := S2 g (j * 3) (i * 3) y x) 10 rfl mixedB hS0 (fun _ => ?_)
  refine take_at (i := 0) 7 rfl rfl (by kernel_rfl) (by kernel_rfl) (by kernel_rfl) (fun _ _ _ h => h) (by rfl) (fun w hSw => by (have hSw2 := S2.facts hSw; clear hSw; go_simp; first | done | exact rfl)) (by assumption) ?_
  simp only [List.setIfInBounds_toArray, List.set_cons_zero, List.set_cons_succ]
  refine take_at (i := 1) 8 rfl rfl (by kernel_rfl) (by kernel_rfl) (by kernel_rfl) (fun _ _ _ h => h) (by rfl) (fun w hSw => by (have hSw2 := S2.facts hSw; clear hSw; go_simp; first | done | exact rfl)) (by assumption) ?_
  simp only [List.setIfInBounds_toArray, List.set_cons_zero, List.set_cons_succ]
  refine take_at (i := 2) 9 rfl rfl (by kernel_rfl) (by kernel_rfl) (by kernel_rfl) (fun _ _ _ h => h) (by rfl) (fun w hSw => by (have hSw2 := S2.facts hSw; clear hSw; go_simp; first | done | exact rfl)) (by assumption) ?_
  simp only [List.setIfInBounds_toArray, List.set_cons_zero, List.set_cons_succ]
  refine take_at (i := 3) 10 rfl rfl (by kernel_rfl) (by kernel_rfl) (by kernel_rfl) (fun _ _ _ h => h) (by rfl) (fun w hSw => by (have hSw2 := S2.facts hSw; clear hSw; go_simp; first | done | exact rfl)) (by assumption) ?_
  simp only [List.setIfInBounds_toArray, List.set_cons_zero, List.set_cons_succ]
  refine take_at (i := 4) 11 rfl rfl (by kernel_rfl) (by kernel_rfl) (by kernel_rfl) (fun _ _ _ h => h) (by rfl) (fun w hSw => by (have hSw2 := S2.facts hSw; clear hSw; go_simp; first | done | exact rfl)) (by assumption) ?_
  simp only [List.setIfInBounds_toArray, List.set_cons_zero, List.set_cons_succ]
  refine take_at (i := 5) 12 rfl rfl (by kernel_rfl) (by kernel_rfl) (by kernel_rfl) (fun _ _ _ h => h) (by rfl) (fun w hSw => by (have hSw2 := S2.facts hSw; clear hSw; go_simp; first | done | exact rfl)) (by assumption) ?_
  simp only [List.setIfInBounds_toArray, List.set_cons_zero, List.set_cons_succ]
  refine take_at (i := 6) 13 rfl rfl (by kernel_rfl) (by kernel_rfl) (by kernel_rfl) (fun _ _ _ h => h) (by rfl) (fun w hSw => by (have hSw2 := S2.facts hSw; clear hSw; go_simp; first | done | exact rfl)) (by assumption) ?_
  simp only [List.setIfInBounds_toArray, List.set_cons_zero, List.set_cons_succ]
  refine take_at (i := 7) 14 rfl rfl (by kernel_rfl) (by kernel_rfl) (by kernel_rfl) (fun _ _ _ h => h) (by rfl) (fun w hSw => by (have hSw2 := S2.facts hSw; clear hSw; go_simp; first | done | exact rfl)) (by assumption) ?_
  simp only [List.setIfInBounds_toArray, List.set_cons_zero, List.set_cons_succ]
  refine one_call (i := 8) (w0 := w.drew) 15 11 #[valM y, valM x] (by kernel_rfl) rfl rfl (by rfl) (by kernel_rfl) ((HB w.drew).mono ?_)
  rintro e w1 ⟨rfl, hb⟩
  have hS1 : S2 g (j * 3) (i * 3) y x w1 := hS0.below hg hb
  refine ⟨_, rfl, hS1, fun _ => ?_⟩
  simp only [List.setIfInBounds_toArray, List.set_cons_zero, List.set_cons_succ]
  refine one_value (i := 9) (v := .bool (btr y x)) (w' := w1) 6 (by kernel_rfl) rfl rfl (by rfl) (by kernel_rfl) hS1 (fun _ => ?_)
  simp only [List.setIfInBounds_toArray, List.set_cons_zero, List.set_cons_succ]
  refine wpAnyH_done (by kernel_rfl) ?_ _
  go_wp2
  go_ret
  exact ⟨rfl, (Below.refl _ w).drew.trans hb⟩
attribute [local go_sem ↓] exec_load_M exec_store_M
set_option maxHeartbeats 2000000 in
theorem Swap_any (B : Nat) (w : World) (v : Value) (h : List Mt) (H : GOwn 23 3 B w v (h.map cellsM)) (i j : Nat) (hi : i < h.length) (hj : j < h.length) (hl : h.length < 4611686018427387904) :
    Calls Try.prog 46 #[v, .int .i64 i, .int .i64 j] w fun e w' => e = .returned (.tuple #[]) ∧ GOwn 23 3 B w' v ((swp h i j).map cellsM) ∧ Upd (fun k => v.ownBlock = some k) w w' := by
  obtain ⟨g, cap, rfl, hg, _, hcap, hc⟩ := GOwn.mt H (by omega)
  obtain ⟨i0, i1, i2, f0, f1, f2⟩ := hc i hi
  obtain ⟨j0, j1, j2, _⟩ := hc j hj
  have hiz : (i : Int) < (h.length : Int) := by omega
  have hjz : (j : Int) < (h.length : Int) := by omega
  have H1 : GOwn 23 3 B (w.drew.setCells g (i * 3) (cellsM (el h j))) (.slice (some ⟨g, 0, none⟩) h.length cap) ((h.set i (el h j)).map cellsM) := by
    rw [map_set]
    exact GOwn.put (w := w.drew) H (by simp) i (by simpa using hi) _ (cellsM_ok _)
  have H2 : GOwn 23 3 B ((w.drew.setCells g (i * 3) (cellsM (el h j))).setCells g (j * 3) (cellsM (el h i))) (.slice (some ⟨g, 0, none⟩) h.length cap) ((swp h i j).map cellsM) := by
    unfold swp
    rw [map_set]
    exact GOwn.put H1 (by simp) j (by simpa using hj) _ (cellsM_ok _)
  have HU : Upd (fun k => (Value.slice (some ⟨g, 0, none⟩) h.length cap).ownBlock = some k) w ((w.drew.setCells g (i * 3) (cellsM (el h j))).setCells g (j * 3) (cellsM (el h i))) := Upd.setCells (F := fun k => (Value.slice (some ⟨g, 0, none⟩) h.length cap).ownBlock = some k) (g := g) rfl _ _ (Upd.setCells (F := fun k => (Value.slice (some ⟨g, 0, none⟩) h.length cap).ownBlock = some k) (g := g) rfl _ _ (Upd.refl _ w).drew)
  have li : loadM Try.prog (.pointer (some ⟨g, i * 3, none⟩)) w.drew = .ok (valM (el h i)) w.drew := loadM_at i0 i1 i2
  have lj : loadM Try.prog (.pointer (some ⟨g, j * 3, none⟩)) w.drew = .ok (valM (el h j)) w.drew := loadM_at j0 j1 j2
  have si : storeM Try.prog (.pointer (some ⟨g, i * 3, none⟩)) (valM (el h j)) w.drew = .ok () (w.drew.setCells g (i * 3) (cellsM (el h j))) := storeM_at i0 i1 i2 f0 f1 f2
  have sj : storeM Try.prog (.pointer (some ⟨g, j * 3, none⟩)) (valM (el h i)) (w.drew.setCells g (i * 3) (cellsM (el h j))) = .ok () ((w.drew.setCells g (i * 3) (cellsM (el h j))).setCells g (j * 3) (cellsM (el h i))) := by
    obtain ⟨g', cap', hv, _, _, _, hc'⟩ := GOwn.mt H1 (by simp; omega)
    simp only [Value.slice.injEq, Option.some.injEq, Addr.mk.injEq, and_true] at hv
    obtain ⟨rfl, _, _⟩ := hv
    obtain ⟨k0, k1, k2, e0, e1, e2⟩ := hc' j (by simpa using hj)
    exact storeM_at k0 k1 k2 e0 e1 e2
  have mixed := mixedB
  have HG : Hid (GOwn 23 3 B ((w.drew.setCells g (i * 3) (cellsM (el h j))).setCells g (j * 3) (cellsM (el h i))) (.slice (some ⟨g, 0, none⟩) h.length cap) ((swp h i j).map cellsM)) := H2
  have HUU : Hid (Upd (fun k => (Value.slice (some ⟨g, 0, none⟩) h.length cap).ownBlock = some k) w ((w.drew.setCells g (i * 3) (cellsM (el h j))).setCells g (j * 3) (cellsM (el h i)))) := HU
  generalize (swp h i j).map cellsM = hs at HG ⊢
  generalize el h j = y at lj si sj HG HUU
  generalize el h i = x at li sj HG HUU
  generalize h.length = n at hiz hjz hcap hl HG HUU ⊢
  clear H hc i0 i1 i2 j0 j1 j2 hi hj H1 H2 HU f0 f1 f2
  go_enter Try.func46, Try.ntmps46
  go_wp2_with fail
  go_big_region_o
  go_wp2
  go_returns
  exact ⟨rfl, HG.out, HUU.out⟩
end Bt
end Go.Proofs.Ytmpfcdffpjocnaa
