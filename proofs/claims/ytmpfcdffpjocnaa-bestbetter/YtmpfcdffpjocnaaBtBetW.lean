/- BestBetter, BestOrder: the laws' own walks. -/
import Derived.Test.YtmpfcdffpjocnaaBtAlive
namespace Go.Proofs.Ytmpfcdffpjocnaa
open Go.RowKit Go.Lib Nums Pm
set_option maxRecDepth 100000
namespace Bt
/-- Two matches in blocks of their own. -/
structure S22 (g1 g2 : Nat) (x y : Mt) (W : World) : Prop where
  a0 : W.cell? ⟨g1, 0, none⟩ = some (.string x.1)
  a1 : W.cell? ⟨g1, 1, none⟩ = some (.int .i64 x.2.1)
  a2 : W.cell? ⟨g1, 2, none⟩ = some (.int .i64 x.2.2)
  b0 : W.cell? ⟨g2, 0, none⟩ = some (.string y.1)
  b1 : W.cell? ⟨g2, 1, none⟩ = some (.int .i64 y.2.1)
  b2 : W.cell? ⟨g2, 2, none⟩ = some (.int .i64 y.2.2)
theorem S22.facts {g1 g2 : Nat} {x y : Mt} {W : World} (h : S22 g1 g2 x y W) : W.cell? ⟨g1, 0, none⟩ = some (.string x.1) ∧ W.cell? ⟨g1, 1, none⟩ = some (.int .i64 x.2.1) ∧ W.cell? ⟨g1, 2, none⟩ = some (.int .i64 x.2.2) ∧ W.cell? ⟨g2, 0, none⟩ = some (.string y.1) ∧ W.cell? ⟨g2, 1, none⟩ = some (.int .i64 y.2.1) ∧ W.cell? ⟨g2, 2, none⟩ = some (.int .i64 y.2.2) := ⟨h.a0, h.a1, h.a2, h.b0, h.b1, h.b2⟩
theorem S22.below {g1 g2 : Nat} {x y : Mt} {W W' : World} {E : Nat} (h : S22 g1 g2 x y W) (h1 : g1 < E) (h2 : g2 < E) (hb : Below E W W') : S22 g1 g2 x y W' :=
  ⟨(hb.cell (p := ⟨g1, 0, none⟩) h1).trans h.a0, (hb.cell (p := ⟨g1, 1, none⟩) h1).trans h.a1, (hb.cell (p := ⟨g1, 2, none⟩) h1).trans h.a2, (hb.cell (p := ⟨g2, 0, none⟩) h2).trans h.b0, (hb.cell (p := ⟨g2, 1, none⟩) h2).trans h.b1, (hb.cell (p := ⟨g2, 2, none⟩) h2).trans h.b2⟩
theorem two_boxes (w : World) (a b : Mt) : S22 w.heap.size (w.heap.size + 1) a b ((w.alloc (.cells #[.string a.1, .int .i64 a.2.1, .int .i64 a.2.2] 23)).alloc (.cells #[.string b.1, .int .i64 b.2.1, .int .i64 b.2.2] 23)) := by
  refine ⟨?_, ?_, ?_, ?_, ?_, ?_⟩ <;> simp
set_option maxHeartbeats 2000000 in
theorem better_walk (a b : Mt) (w : World) (ha : SmM a) (hb : SmM b) : Calls Try.prog 3 #[valM a, valM b] w fun e w' => e = .returned (.bool true) ∧ Below w.heap.size w w' := by
  obtain ⟨V, hV⟩ : ∃ V, (w.alloc (.cells #[.string a.1, .int .i64 a.2.1, .int .i64 a.2.2] 23)).alloc (.cells #[.string b.1, .int .i64 b.2.1, .int .i64 b.2.2] 23) = V := ⟨_, rfl⟩
  have hbV : Below w.heap.size w V := by rw [← hV]; exact two_below _ _ _
  have hS : S22 w.heap.size (w.heap.size + 1) a b V := by rw [← hV]; exact two_boxes w a b
  have hsz : V.heap.size = w.heap.size + 2 := by rw [← hV]; simp
  obtain ⟨g1, hg1⟩ : ∃ g1, w.heap.size = g1 := ⟨_, rfl⟩
  obtain ⟨g2, hg2⟩ : ∃ g2, g1 + 1 = g2 := ⟨_, rfl⟩
  rw [hg1, hg2] at hS
  have HB := fun W => Better_any a b W
  have HR := fun W => refBetter_any a b W ha hb
  have HA := alive_any
  have HBV : Hid (Below w.heap.size w V) := hbV
  have hl1 : g1 < V.heap.size := by omega
  have hl2 : g2 < V.heap.size := by omega
  have hS0 : S22 g1 g2 a b V.drew := ⟨hS.a0, hS.a1, hS.a2, hS.b0, hS.b1, hS.b2⟩
  clear ha hb hbV hsz hS
  unfold valM at *
  go_enter Try.func3, Try.ntmps3
  go_wp2_with fail
  clear hV hg1 hg2
  refine region_at (S := S22 g1 g2 a b) 11 rfl mixedB hS0 (fun _ => ?_)
  refine one_call (i := 0) (w0 := V.drew) 5 10 #[] (by kernel_rfl) rfl rfl (by rfl) (by kernel_rfl) ((HA V.drew).mono ?_)
  rintro e w1 ⟨rfl, hb1⟩
  have hb1' : Below V.heap.size V w1 := (Below.refl _ V).drew.trans hb1
  have hS1 : S22 g1 g2 a b w1 := hS0.below hl1 hl2 hb1
  refine ⟨_, rfl, hS1, fun _ => ?_⟩
  simp only [List.setIfInBounds_toArray, List.set_cons_zero, List.set_cons_succ]
  refine take_at (i := 1) 6 rfl rfl (by kernel_rfl) (by kernel_rfl) (by kernel_rfl) (fun _ _ _ h => h) (by rfl) (fun w hSw => by (have hSw2 := S22.facts hSw; clear hSw; go_simp; first | done | exact rfl)) (by assumption) ?_
  simp only [List.setIfInBounds_toArray, List.set_cons_zero, List.set_cons_succ]
  refine take_at (i := 2) 7 rfl rfl (by kernel_rfl) (by kernel_rfl) (by kernel_rfl) (fun _ _ _ h => h) (by rfl) (fun w hSw => by (have hSw2 := S22.facts hSw; clear hSw; go_simp; first | done | exact rfl)) (by assumption) ?_
  simp only [List.setIfInBounds_toArray, List.set_cons_zero, List.set_cons_succ]
  refine take_at (i := 3) 8 rfl rfl (by kernel_rfl) (by kernel_rfl) (by kernel_rfl) (fun _ _ _ h => h) (by rfl) (fun w hSw => by (have hSw2 := S22.facts hSw; clear hSw; go_simp; first | done | exact rfl)) (by assumption) ?_
  simp only [List.setIfInBounds_toArray, List.set_cons_zero, List.set_cons_succ]
  refine take_at (i := 5) 10 rfl rfl (by kernel_rfl) (by kernel_rfl) (by kernel_rfl) (fun _ _ _ h => h) (by rfl) (fun w hSw => by (have hSw2 := S22.facts hSw; clear hSw; go_simp; first | done | exact rfl)) (by assumption) ?_
  simp only [List.setIfInBounds_toArray, List.set_cons_zero, List.set_cons_succ]
  refine take_at (i := 6) 11 rfl rfl (by kernel_rfl) (by kernel_rfl) (by kernel_rfl) (fun _ _ _ h => h) (by rfl) (fun w hSw => by (have hSw2 := S22.facts hSw; clear hSw; go_simp; first | done | exact rfl)) (by assumption) ?_
  simp only [List.setIfInBounds_toArray, List.set_cons_zero, List.set_cons_succ]
  refine one_call (i := 4) (w0 := w1) 9 11 #[.agg #[.string a.1, .int .i64 a.2.1, .int .i64 a.2.2], .agg #[.string b.1, .int .i64 b.2.1, .int .i64 b.2.2]] (by kernel_rfl) rfl rfl (by rfl) (by kernel_rfl) ((HB w1).mono ?_)
  rintro e w2 ⟨rfl, hb2⟩
  have hb2' : Below V.heap.size V w2 := hb1'.trans (hb2.mono hb1'.size)
  have hS2 : S22 g1 g2 a b w2 := hS1.below hl1 hl2 (hb2.mono hb1'.size)
  refine ⟨_, rfl, hS2, fun _ => ?_⟩
  simp only [List.setIfInBounds_toArray, List.set_cons_zero, List.set_cons_succ]
  refine one_call (i := 7) (w0 := w2) 12 12 #[.agg #[.string a.1, .int .i64 a.2.1, .int .i64 a.2.2], .agg #[.string b.1, .int .i64 b.2.1, .int .i64 b.2.2]] (by kernel_rfl) rfl rfl (by rfl) (by kernel_rfl) ((HR w2).mono ?_)
  rintro e w3 ⟨rfl, hb3⟩
  have hb3' : Below V.heap.size V w3 := hb2'.trans (hb3.mono hb2'.size)
  have hS3 : S22 g1 g2 a b w3 := hS2.below hl1 hl2 (hb3.mono hb2'.size)
  refine ⟨_, rfl, hS3, fun _ => ?_⟩
  simp only [List.setIfInBounds_toArray, List.set_cons_zero, List.set_cons_succ]
  generalize btr a b = bt
  refine one_value (i := 8) (v := .bool true) (w' := w3) 13 (by kernel_rfl) rfl rfl (by rfl) (by go_simp; first | done | exact rfl | simp) hS3 (fun _ => ?_)
  simp only [List.setIfInBounds_toArray, List.set_cons_zero, List.set_cons_succ]
  refine one_value (i := 9) (v := .bool true) (w' := w3) 14 (by kernel_rfl) rfl rfl (by rfl) (by kernel_rfl) hS3 (fun _ => ?_)
  simp only [List.setIfInBounds_toArray, List.set_cons_zero, List.set_cons_succ]
  refine one_value (i := 10) (v := .bool true) (w' := w3) 4 (by kernel_rfl) rfl rfl (by rfl) (by kernel_rfl) hS3 (fun _ => ?_)
  simp only [List.setIfInBounds_toArray, List.set_cons_zero, List.set_cons_succ]
  refine wpAnyH_done (by kernel_rfl) ?_ _
  go_wp2
  go_ret
  exact ⟨rfl, HBV.out.trans (hb3'.mono HBV.out.size)⟩
theorem run_eqM (a b : Mt) (w : World) : (binOp .eql 23 (.agg #[.string a.1, .int .i64 a.2.1, .int .i64 a.2.2]) (.agg #[.string b.1, .int .i64 b.2.1, .int .i64 b.2.2])).run Try.prog w = .ok (.bool (decide (a = b))) w := by
  simp [go_sem]
  have e1 : a.1.toList = b.1.toList ↔ a.1 = b.1 := ⟨fun e => by rw [ByteArray.toList_eq, ByteArray.toList_eq] at e; exact ba_ext e, fun e => by rw [e]⟩
  have e2 : a = b ↔ a.1 = b.1 ∧ a.2.1 = b.2.1 ∧ a.2.2 = b.2.2 := ⟨fun e => by rw [e]; exact ⟨rfl, rfl, rfl⟩, fun ⟨x, y, z⟩ => Prod.ext x (Prod.ext y z)⟩
  simp only [e1, e2]
  by_cases h1 : a.1 = b.1 <;> by_cases h2 : a.2.1 = b.2.1 <;> by_cases h3 : a.2.2 = b.2.2 <;> simp [h1, h2, h3]
structure S3 (g1 g2 g3 : Nat) (x y z : Mt) (W : World) : Prop where
  a : W.heap[g1]? = some (.cells (cellsM x).toArray 23)
  b : W.heap[g2]? = some (.cells (cellsM y).toArray 23)
  c : W.heap[g3]? = some (.cells (cellsM z).toArray 23)
theorem S3.below {g1 g2 g3 : Nat} {x y z : Mt} {W W' : World} (h : S3 g1 g2 g3 x y z W) (hb : Below W.heap.size W W') : S3 g1 g2 g3 x y z W' :=
  ⟨(hb.block g1 (Array.getElem?_eq_some_iff.1 h.a).1).trans h.a, (hb.block g2 (Array.getElem?_eq_some_iff.1 h.b).1).trans h.b, (hb.block g3 (Array.getElem?_eq_some_iff.1 h.c).1).trans h.c⟩
theorem S3.loads {g1 g2 g3 : Nat} {x y z : Mt} {W : World} (h : S3 g1 g2 g3 x y z W) : loadM Try.prog (.pointer (some ⟨g1, 0, none⟩)) W = .ok (valM x) W ∧ loadM Try.prog (.pointer (some ⟨g2, 0, none⟩)) W = .ok (valM y) W ∧ loadM Try.prog (.pointer (some ⟨g3, 0, none⟩)) W = .ok (valM z) W := ⟨own_load h.a, own_load h.b, own_load h.c⟩
theorem three_boxes (w : World) (a b c : Mt) : S3 w.heap.size (w.heap.size + 1) (w.heap.size + 2) a b c (((w.alloc (.cells (cellsM a).toArray 23)).alloc (.cells (cellsM b).toArray 23)).alloc (.cells (cellsM c).toArray 23)) := by
  refine ⟨?_, ?_, ?_⟩
  · show (((w.heap.push _).push _).push _)[w.heap.size]? = _
    simp only [Array.getElem?_push, Array.size_push]
    rw [if_neg (by omega), if_neg (by omega), if_pos trivial]
  · show (((w.heap.push _).push _).push _)[w.heap.size + 1]? = _
    simp only [Array.getElem?_push, Array.size_push]
    rw [if_neg (by omega), if_pos trivial]
  · show (((w.heap.push _).push _).push _)[w.heap.size + 2]? = _
    simp only [Array.getElem?_push, Array.size_push]
    rw [if_pos trivial]
attribute [local go_sem ↓] exec_load_M exec_store_M
set_option maxHeartbeats 2000000 in
theorem order_walk (a b c : Mt) (w : World) (_ : SmM a) (_ : SmM b) (_ : SmM c) : Calls Try.prog 4 #[valM a, valM b, valM c] w fun e w' => e = .returned (.bool true) ∧ Below w.heap.size w w' := by
  obtain ⟨V, hV⟩ : ∃ V, ((w.alloc (.cells (cellsM a).toArray 23)).alloc (.cells (cellsM b).toArray 23)).alloc (.cells (cellsM c).toArray 23) = V := ⟨_, rfl⟩
  have hV' : ((w.alloc (.cells #[.string a.1, .int .i64 a.2.1, .int .i64 a.2.2] 23)).alloc (.cells #[.string b.1, .int .i64 b.2.1, .int .i64 b.2.2] 23)).alloc (.cells #[.string c.1, .int .i64 c.2.1, .int .i64 c.2.2] 23) = V := hV
  have HBV : Hid (Below w.heap.size w V) := by show Below _ _ _; rw [← hV]; exact (two_below _ _ _).alloc (by simp; omega) _
  have hS : S3 w.heap.size (w.heap.size + 1) (w.heap.size + 1 + 1) a b c V := by rw [← hV]; exact three_boxes w a b c
  obtain ⟨g1, hg1⟩ : ∃ g1, w.heap.size = g1 := ⟨_, rfl⟩
  obtain ⟨g2, hg2⟩ : ∃ g2, g1 + 1 = g2 := ⟨_, rfl⟩
  obtain ⟨g3, hg3⟩ : ∃ g3, g2 + 1 = g3 := ⟨_, rfl⟩
  rw [hg1, hg2, hg3] at hS
  have HS : Hid (S3 g1 g2 g3 a b c V) := hS
  have HAB := fun W => Better_any a b W
  have HBA := fun W => Better_any b a W
  have HBC := fun W => Better_any b c W
  have HAC := fun W => Better_any a c W
  have HA := alive_any
  have HEQ := fun W => run_eqM a b W
  have hva : valM a = .agg #[.string a.1, .int .i64 a.2.1, .int .i64 a.2.2] := rfl
  have hvb : valM b = .agg #[.string b.1, .int .i64 b.2.1, .int .i64 b.2.2] := rfl
  have hvc : valM c = .agg #[.string c.1, .int .i64 c.2.1, .int .i64 c.2.2] := rfl
  clear hS
  by_cases hab : a = b
  · have hd : decide (a = b) = true := decide_eq_true hab
    rw [hd] at HEQ
    have e1 : btr a b = false := by rw [hab]; exact btr_sto.1 _
    have e2 : btr b a = false := by rw [hab]; exact btr_sto.1 _
    rw [e1] at HAB
    rw [e2] at HBA
    clear hd e1 e2 hab
    go_enter Try.func4, Try.ntmps4
    go_upto_region 1 with fail

    clear hV hV'
    obtain ⟨l1, l2, l3⟩ := HS.out.loads
    go_upto_region 2 with (go_at_call 11; refine (HAB _).mono ?_; rintro e w1 ⟨rfl, hb1⟩)
    have HS1 : Hid (S3 g1 g2 g3 a b c w1) := HS.out.below hb1
    have HB1 : Hid (Below w.heap.size w w1) := HBV.out.trans (hb1.mono HBV.out.size)
    clear hb1 l1 l2 l3
    obtain ⟨l1, l2, l3⟩ := HS1.out.loads
    go_upto_region 3 with (go_at_call 11; refine (HBA _).mono ?_; rintro e w2 ⟨rfl, hb2⟩)
    have HS2 : Hid (S3 g1 g2 g3 a b c w2) := HS1.out.below hb2
    have HB2 : Hid (Below w.heap.size w w2) := HB1.out.trans (hb2.mono HB1.out.size)
    clear hb2 l1 l2 l3
    obtain ⟨l1, l2, l3⟩ := HS2.out.loads
    go_wp2_with (go_at_call 10; refine (HA _).mono ?_; rintro e w3 ⟨rfl, hb3⟩)
    go_ret
    exact ⟨rfl, HB2.out.trans (hb3.mono HB2.out.size)⟩
  · have hd : decide (a = b) = false := decide_eq_false hab
    rw [hd] at HEQ
    cases e1 : btr a b
    · have e2 : btr b a = true := by
        cases e2 : btr b a
        · exact absurd (btr_sto.3 _ _ e1 e2) hab
        · rfl
      rw [e1] at HAB
      rw [e2] at HBA
      clear hd e1 e2 hab
      go_enter Try.func4, Try.ntmps4
      go_upto_region 1 with fail

      clear hV hV'
      obtain ⟨l1, l2, l3⟩ := HS.out.loads
      go_upto_region 2 with (go_at_call 11; refine (HAB _).mono ?_; rintro e w1 ⟨rfl, hb1⟩)
      have HS1 : Hid (S3 g1 g2 g3 a b c w1) := HS.out.below hb1
      have HB1 : Hid (Below w.heap.size w w1) := HBV.out.trans (hb1.mono HBV.out.size)
      clear hb1 l1 l2 l3
      obtain ⟨l1, l2, l3⟩ := HS1.out.loads
      go_upto_region 3 with (go_at_call 11; refine (HBA _).mono ?_; rintro e w2 ⟨rfl, hb2⟩)
      have HS2 : Hid (S3 g1 g2 g3 a b c w2) := HS1.out.below hb2
      have HB2 : Hid (Below w.heap.size w w2) := HB1.out.trans (hb2.mono HB1.out.size)
      clear hb2 l1 l2 l3
      obtain ⟨l1, l2, l3⟩ := HS2.out.loads
      go_wp2_with (go_at_call 10; refine (HA _).mono ?_; rintro e w3 ⟨rfl, hb3⟩)
      go_ret
      exact ⟨rfl, HB2.out.trans (hb3.mono HB2.out.size)⟩
    · have e2 : btr b a = false := asy e1
      rw [e2] at HBA
      have HAB' := HAB
      rw [e1] at HAB
      cases e3 : btr b c
      · rw [e3] at HBC
        clear hd e1 e2 e3 hab HAB'
        go_enter Try.func4, Try.ntmps4
        go_upto_region 1 with fail

        clear hV hV'
        obtain ⟨l1, l2, l3⟩ := HS.out.loads
        go_upto_region 2 with (go_at_call 11; refine (HAB _).mono ?_; rintro e w1 ⟨rfl, hb1⟩)
        have HS1 : Hid (S3 g1 g2 g3 a b c w1) := HS.out.below hb1
        have HB1 : Hid (Below w.heap.size w w1) := HBV.out.trans (hb1.mono HBV.out.size)
        clear hb1 l1 l2 l3
        obtain ⟨l1, l2, l3⟩ := HS1.out.loads
        go_upto_region 3 with (go_at_call 11; refine (HBA _).mono ?_; rintro e w2 ⟨rfl, hb2⟩)
        have HS2 : Hid (S3 g1 g2 g3 a b c w2) := HS1.out.below hb2
        have HB2 : Hid (Below w.heap.size w w2) := HB1.out.trans (hb2.mono HB1.out.size)
        clear hb2 l1 l2 l3
        obtain ⟨l1, l2, l3⟩ := HS2.out.loads
        go_upto_region 5 with fail
        clear l1 l2 l3
        go_wp2_with (first
          | (go_at_call 10; refine (HA _).mono ?_; rintro e w3 ⟨rfl, hb3⟩; have HS3 : Hid (S3 g1 g2 g3 a b c w3) := HS2.out.below hb3; have HB3 : Hid (Below w.heap.size w w3) := HB2.out.trans (hb3.mono HB2.out.size); clear hb3; obtain ⟨l1, l2, l3⟩ := HS3.out.loads)
          | (go_at_call 11; refine (HBC _).mono ?_; rintro e w4 ⟨rfl, hb4⟩))
        go_ret
        exact ⟨rfl, HB3.out.trans (hb4.mono HB3.out.size)⟩
      · have e4 : btr a c = true := btr_sto.2 _ _ _ e1 e3
        rw [e3] at HBC
        rw [e4] at HAC
        clear hd e1 e2 e3 e4 hab HAB'
        go_enter Try.func4, Try.ntmps4
        go_upto_region 1 with fail

        clear hV hV'
        obtain ⟨l1, l2, l3⟩ := HS.out.loads
        go_upto_region 2 with (go_at_call 11; refine (HAB _).mono ?_; rintro e w1 ⟨rfl, hb1⟩)
        have HS1 : Hid (S3 g1 g2 g3 a b c w1) := HS.out.below hb1
        have HB1 : Hid (Below w.heap.size w w1) := HBV.out.trans (hb1.mono HBV.out.size)
        clear hb1 l1 l2 l3
        obtain ⟨l1, l2, l3⟩ := HS1.out.loads
        go_upto_region 3 with (go_at_call 11; refine (HBA _).mono ?_; rintro e w2 ⟨rfl, hb2⟩)
        have HS2 : Hid (S3 g1 g2 g3 a b c w2) := HS1.out.below hb2
        have HB2 : Hid (Below w.heap.size w w2) := HB1.out.trans (hb2.mono HB1.out.size)
        clear hb2 l1 l2 l3
        obtain ⟨l1, l2, l3⟩ := HS2.out.loads
        go_upto_region 5 with fail
        clear l1 l2 l3
        go_wp2_with (first
          | (go_at_call 10; refine (HA _).mono ?_; rintro e w3 ⟨rfl, hb3⟩; have HS3 : Hid (S3 g1 g2 g3 a b c w3) := HS2.out.below hb3; have HB3 : Hid (Below w.heap.size w w3) := HB2.out.trans (hb3.mono HB2.out.size); clear hb3; obtain ⟨l1, l2, l3⟩ := HS3.out.loads)
          | (go_at_call 11; refine (HBC _).mono ?_; rintro e w4 ⟨rfl, hb4⟩; have HS4 : Hid (S3 g1 g2 g3 a b c w4) := HS3.out.below hb4; have HB4 : Hid (Below w.heap.size w w4) := HB3.out.trans (hb4.mono HB3.out.size); clear hb4 HBC l1 l2 l3; obtain ⟨k1, k2, k3⟩ := HS4.out.loads)
          | (go_at_call 11; refine (HAC _).mono ?_; rintro e w5 ⟨rfl, hb5⟩))
        go_ret
        exact ⟨rfl, HB4.out.trans (hb5.mono HB4.out.size)⟩
end Bt
end Go.Proofs.Ytmpfcdffpjocnaa
