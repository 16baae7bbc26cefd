/- WalkNumbers: the law's own walk. -/
import Derived.Test.YthjlihhknaelaaaDoorWkMk
import Derived.Laws.StructEq
namespace Go.Proofs.YthjlihhknaelaaaDoor
open Go.RowKit Nums Fm Pk Pm
set_option maxRecDepth 100000

/-- What region 7 looks at. -/
structure S7p (pb g o : Nat) (x : Pr) (W : World) : Prop where
  c0 : W.cell? ⟨pb, 0, none⟩ = some (.string x.1)
  c1 : W.cell? ⟨pb, 1, none⟩ = some (.int .i64 x.2)
  d0 : W.cell? ⟨g, o, none⟩ = some (.string x.1)
  d1 : W.cell? ⟨g, o + 1, none⟩ = some (.int .i64 x.2)
theorem S7p.facts {pb g o : Nat} {x : Pr} {W : World} (h : S7p pb g o x W) : W.cell? ⟨pb, 0, none⟩ = some (.string x.1) ∧ W.cell? ⟨pb, 1, none⟩ = some (.int .i64 x.2) ∧ W.cell? ⟨g, o, none⟩ = some (.string x.1) ∧ W.cell? ⟨g, o + 1, none⟩ = some (.int .i64 x.2) := ⟨h.1, h.2, h.3, h.4⟩
theorem S7p.below {pb g o : Nat} {x : Pr} {W W' : World} (h : S7p pb g o x W) (hb : Below W.heap.size W W') : S7p pb g o x W' :=
  ⟨(hb.cell (p := ⟨pb, 0, none⟩) (World.block_lt_of_cell? _ _ h.1)).trans h.1, (hb.cell (p := ⟨pb, 1, none⟩) (World.block_lt_of_cell? _ _ h.2)).trans h.2, (hb.cell (p := ⟨g, o, none⟩) (World.block_lt_of_cell? _ _ h.3)).trans h.3, (hb.cell (p := ⟨g, o + 1, none⟩) (World.block_lt_of_cell? _ _ h.4)).trans h.4⟩
set_option maxHeartbeats 4000000 in
theorem numbers_walk (v : Value) (i : Int) (w : World) (ht : Tabs w) (l : List Pr) (h : PRow w v l) (hs : Sm l) (hl : l.length ≤ 9223372036854775807) (hi : -9223372036854775808 ≤ i ∧ i ≤ 9223372036854775807) :
    Calls Tryd.prog 5 #[v, .int .i64 i] w fun e w' => e = .returned (.bool true) ∧ Below w.heap.size w w' := by
  have HAL : Hid (∀ W, Below w.heap.size w W → Calls Tryd.prog 11 #[] W fun e w' => e = .returned (.bool true) ∧ Below W.heap.size W w') := fun W hW => alive_any W (ht.below hW)
  cases hb : onB l with
  | false =>
    have HON : Hid (Calls Tryd.prog 10 #[v] w fun e w' => e = .returned (.tuple #[.pointer none, .bool false]) ∧ Below w.heap.size w w') := on_no w v l h hl hs hb
    obtain ⟨ad, cap, rfl⟩ := h.form
    clear h ht hs hb
    go_enter Tryd.func5, Tryd.ntmps5
    go_wp2_with (first
      | (go_at_call 10; refine HON.out.mono ?_; rintro e w1 ⟨rfl, hb1⟩; have HB1 : Hid (Below w.heap.size w w1) := hb1; clear hb1)
      | (go_at_call 11; refine (HAL.out _ HB1.out).mono ?_; rintro e w2 ⟨rfl, hb2⟩))
    go_ret
    exact ⟨rfl, HB1.out.trans (hb2.mono HB1.out.size)⟩
  | true =>
    have HON : Hid (Calls Tryd.prog 10 #[v] w fun e w' => ∃ wb, e = .returned (.tuple #[.pointer (some ⟨wb, 0, none⟩), .bool true]) ∧ w.heap.size ≤ wb ∧ WkOn w' wb l ∧ Below w.heap.size w w') := on_yes w ht v l h hl hs hb
    obtain ⟨ad, cap, rfl⟩ := h.form
    have HR : Hid (PRow w (.slice ad l.length cap) l) := h
    by_cases hin : 0 ≤ i ∧ i < (l.length : Int)
    · obtain ⟨k, rfl⟩ : ∃ k : Nat, i = k := ⟨i.toNat, by omega⟩
      obtain ⟨x, hx⟩ : ∃ x, l[k]? = some x := ⟨l[k]'(by omega), List.getElem?_eq_getElem _⟩
      have HAT : Hid (∀ W wb, WkOn W wb l → Calls Tryd.prog 18 #[.pointer (some ⟨wb, 0, none⟩), .int .i64 (k : Int)] W fun e w' => e = .returned (.tuple #[.agg #[.string x.1, .int .i64 x.2], .bool true]) ∧ Below W.heap.size W w') := fun W wb hW => by
        have := at_pos W wb l hW k (by omega)
        rw [hx] at this
        exact this
      obtain ⟨g, off, hg0, hg, htw⟩ := h.at (by omega)
      subst hg0
      have HTX : Hid (TwoAt w g (off + k * 2) x) := htw k x hx
      obtain ⟨n, hn⟩ : ∃ n, l.length = n := ⟨_, rfl⟩
      rw [hn] at HON HR hl hin ⊢
      have hkn : (k : Int) < (n : Int) := hin.2
      have hk0 : ¬ (k : Int) < 0 := by omega
      have hkn2 : ¬ (n : Int) ≤ (k : Int) := by omega
      clear h ht hs hb hx htw hn hin
      go_enter Tryd.func5, Tryd.ntmps5
      go_upto_region 5 with (first
        | (go_at_call 10; refine HON.out.mono ?_; rintro e w1 ⟨wb, rfl, hlo, hon, hb1⟩; have HB1 : Hid (Below w.heap.size w w1) := hb1; have HW : Hid (WkOn w1 wb l) := hon; clear hb1 hon hlo)
        | (go_at_call 18; refine (HAT.out _ _ HW.out).mono ?_; rintro e w2 ⟨rfl, hb2⟩; have HB2 : Hid (Below w.heap.size w w2) := HB1.out.trans (hb2.mono HB1.out.size); clear hb2))
      obtain ⟨W3, hW3⟩ : ∃ W3, W3 = w2.alloc (.cells #[.string x.1, .int .i64 x.2] 39) := ⟨_, rfl⟩
      obtain ⟨pb, hpb⟩ : ∃ pb, pb = w2.heap.size := ⟨_, rfl⟩
      rw [← hW3, ← hpb]
      have hb3 : Below w2.heap.size w2 W3 := by rw [hW3]; exact (Below.refl _ w2).alloc (Nat.le_refl _) _
      have HB3 : Hid (Below w.heap.size w W3.drew) := (HB2.out.trans (hb3.mono HB2.out.size)).drew
      have hS : S7p pb g (off + k * 2) x W3.drew := by
        have t1 := HTX.out.below hg HB3.out
        exact ⟨(by show W3.cell? ⟨pb, 0, none⟩ = _; rw [hW3, hpb]; simp), (by show W3.cell? ⟨pb, 1, none⟩ = _; rw [hW3, hpb]; simp), t1.c0, t1.c1⟩
      clear hW3 hpb hb3
      go_upto_region 7 with fail
      refine region_at (S := S7p pb g (off + k * 2) x) 13 rfl mixedP hS (fun _ => ?_)
      refine one_call (i := 0) (w0 := W3.drew) 49 11 #[] (by kernel_rfl) rfl rfl (by rfl) (by kernel_rfl) ?_
      refine (HAL.out _ HB3.out).mono ?_
      rintro e w4 ⟨rfl, hb4⟩
      have HB4 : Hid (Below w.heap.size w w4) := HB3.out.trans (hb4.mono HB3.out.size)
      have hS4 := hS.below hb4
      clear hS hb4
      refine ⟨_, rfl, hS4, fun _ => ?_⟩
      simp only [List.setIfInBounds_toArray, List.set_cons_zero, List.set_cons_succ]
      refine take_at (i := 1) 50 rfl rfl (by kernel_rfl) (by kernel_rfl) (by kernel_rfl) (fun _ _ _ h => h) (by rfl) (fun w hSw => by (have hSw2 := S7p.facts hSw; clear hSw; go_simp; first | done | exact rfl)) (by assumption) ?_
      simp only [List.setIfInBounds_toArray, List.set_cons_zero, List.set_cons_succ]
      refine take_at (i := 2) 51 rfl rfl (by kernel_rfl) (by kernel_rfl) (by kernel_rfl) (fun _ _ _ h => h) (by rfl) (fun w hSw => by (have hSw2 := S7p.facts hSw; clear hSw; go_simp; first | done | exact rfl)) (by assumption) ?_
      simp only [List.setIfInBounds_toArray, List.set_cons_zero, List.set_cons_succ]
      refine take_at (i := 3) 52 rfl rfl (by kernel_rfl) (by kernel_rfl) (by kernel_rfl) (fun _ _ _ h => h) (by rfl) (fun w hSw => by (have hSw2 := S7p.facts hSw; clear hSw; go_simp; first | done | exact rfl)) (by assumption) ?_
      simp only [List.setIfInBounds_toArray, List.set_cons_zero, List.set_cons_succ]
      refine take_at (i := 4) 53 rfl rfl (by kernel_rfl) (by kernel_rfl) (by kernel_rfl) (fun _ _ _ h => h) (by rfl) (fun w hSw => by (have hSw2 := S7p.facts hSw; clear hSw; go_simp; first | done | exact rfl)) (by assumption) ?_
      simp only [List.setIfInBounds_toArray, List.set_cons_zero, List.set_cons_succ]
      refine take_at (i := 5) 54 rfl rfl (by kernel_rfl) (by kernel_rfl) (by kernel_rfl) (fun _ _ _ h => h) (by rfl) (fun w hSw => by (have hSw2 := S7p.facts hSw; clear hSw; go_simp; first | done | exact rfl)) (by assumption) ?_
      simp only [List.setIfInBounds_toArray, List.set_cons_zero, List.set_cons_succ]
      refine take_at (i := 6) 55 rfl rfl (by kernel_rfl) (by kernel_rfl) (by kernel_rfl) (fun _ _ _ h => h) (by rfl) (fun w hSw => by (have hSw2 := S7p.facts hSw; clear hSw; go_simp; first | done | exact rfl)) (by assumption) ?_
      simp only [List.setIfInBounds_toArray, List.set_cons_zero, List.set_cons_succ]
      refine take_at (i := 7) 56 rfl rfl (by kernel_rfl) (by kernel_rfl) (by kernel_rfl) (fun _ _ _ h => h) (by rfl) (fun w hSw => by (have hSw2 := S7p.facts hSw; clear hSw; go_simp; first | done | exact rfl)) (by assumption) ?_
      simp only [List.setIfInBounds_toArray, List.set_cons_zero, List.set_cons_succ]
      refine take_at (i := 8) 57 rfl rfl (by kernel_rfl) (by kernel_rfl) (by kernel_rfl) (fun _ _ _ h => h) (by rfl) (fun w hSw => by (have hSw2 := S7p.facts hSw; clear hSw; go_simp; first | done | exact rfl)) (by assumption) ?_
      simp only [List.setIfInBounds_toArray, List.set_cons_zero, List.set_cons_succ]
      refine take_at (i := 9) 58 rfl rfl (by kernel_rfl) (by kernel_rfl) (by kernel_rfl) (fun _ _ _ h => h) (by rfl) (fun w hSw => by (have hSw2 := S7p.facts hSw; clear hSw; go_simp; first | done | exact rfl)) (by assumption) ?_
      simp only [List.setIfInBounds_toArray, List.set_cons_zero, List.set_cons_succ]
      refine take_at (i := 10) (v := .bool true) 59 rfl rfl (by kernel_rfl) (by kernel_rfl) (by kernel_rfl) (fun _ _ _ h => h) (by rfl) (fun w hSw => by (have hSw2 := S7p.facts hSw; clear hSw; go_simp; first | done | exact rfl | simp_all | (simp; omega))) (by assumption) ?_
      simp only [List.setIfInBounds_toArray, List.set_cons_zero, List.set_cons_succ]
      refine take_at (i := 11) 60 rfl rfl (by kernel_rfl) (by kernel_rfl) (by kernel_rfl) (fun _ _ _ h => h) (by rfl) (fun w hSw => by (have hSw2 := S7p.facts hSw; clear hSw; go_simp; first | done | exact rfl)) (by assumption) ?_
      simp only [List.setIfInBounds_toArray, List.set_cons_zero, List.set_cons_succ]
      refine take_at (i := 12) 4 rfl rfl (by kernel_rfl) (by kernel_rfl) (by kernel_rfl) (fun _ _ _ h => h) (by rfl) (fun w hSw => by (have hSw2 := S7p.facts hSw; clear hSw; go_simp; first | done | exact rfl)) (by assumption) ?_
      simp only [List.setIfInBounds_toArray, List.set_cons_zero, List.set_cons_succ]
      refine wpAnyH_done (by kernel_rfl) ?_ _
      clear hS4
      go_wp2
      go_ret
      exact ⟨by first | rfl | simp, HB4.out⟩
    · have hat : atP l i = none := by
        unfold atP
        split
        · exact List.getElem?_eq_none (by omega)
        · rfl
      have HAT : Hid (∀ W wb, WkOn W wb l → Calls Tryd.prog 18 #[.pointer (some ⟨wb, 0, none⟩), .int .i64 i] W fun e w' => e = .returned (.tuple #[.agg #[.string ⟨#[]⟩, .int .i64 0], .bool false]) ∧ Below W.heap.size W w') := fun W wb hW => by
        have := At_any W wb l hW i (by omega)
        rw [hat] at this
        exact this
      obtain ⟨n, hn⟩ : ∃ n, l.length = n := ⟨_, rfl⟩
      rw [hn] at HON HR hl hin ⊢
      clear h ht hs hb hn hat
      by_cases h0 : i < 0
      · clear hin
        go_enter Tryd.func5, Tryd.ntmps5
        go_upto_region 5 with (first
          | (go_at_call 10; refine HON.out.mono ?_; rintro e w1 ⟨wb, rfl, hlo, hon, hb1⟩; have HB1 : Hid (Below w.heap.size w w1) := hb1; have HW : Hid (WkOn w1 wb l) := hon; clear hb1 hon hlo)
          | (go_at_call 18; refine (HAT.out _ _ HW.out).mono ?_; rintro e w2 ⟨rfl, hb2⟩; have HB2 : Hid (Below w.heap.size w w2) := HB1.out.trans (hb2.mono HB1.out.size); clear hb2))
        obtain ⟨W3, hW3⟩ : ∃ W3, W3 = w2.alloc (.cells #[.string ⟨#[]⟩, .int .i64 0] 39) := ⟨_, rfl⟩
        obtain ⟨pb, hpb⟩ : ∃ pb, pb = w2.heap.size := ⟨_, rfl⟩
        rw [← hW3, ← hpb]
        have hb3 : Below w2.heap.size w2 W3 := by rw [hW3]; exact (Below.refl _ w2).alloc (Nat.le_refl _) _
        have HB3 : Hid (Below w.heap.size w W3) := HB2.out.trans (hb3.mono HB2.out.size)
        have HP : Hid (∀ W, Below W3.heap.size W3 W → W.cell? ⟨pb, 0, none⟩ = some (.string ⟨#[]⟩) ∧ W.cell? ⟨pb, 1, none⟩ = some (.int .i64 0)) := fun W hW => by
          have h1 : W3.cell? ⟨pb, 0, none⟩ = some (.string ⟨#[]⟩) := by rw [hW3, hpb]; simp
          have h2 : W3.cell? ⟨pb, 1, none⟩ = some (.int .i64 0) := by rw [hW3, hpb]; simp
          exact ⟨(hW.cell (p := ⟨pb, 0, none⟩) (World.block_lt_of_cell? _ _ h1)).trans h1, (hW.cell (p := ⟨pb, 1, none⟩) (World.block_lt_of_cell? _ _ h2)).trans h2⟩
        clear hW3 hpb hb3
        go_wp2_with (go_at_call 11; refine (HAL.out _ HB3.out).mono ?_; rintro e w4 ⟨rfl, hb4⟩; obtain ⟨p0, p1⟩ := HP.out w4 hb4; have HB4 : Hid (Below w.heap.size w w4) := HB3.out.trans (hb4.mono HB3.out.size); clear hb4)
        go_ret
        exact ⟨by first | rfl | simp, HB4.out⟩
      · have h1 : (n : Int) ≤ i := by omega
        clear hin
        go_enter Tryd.func5, Tryd.ntmps5
        go_upto_region 5 with (first
          | (go_at_call 10; refine HON.out.mono ?_; rintro e w1 ⟨wb, rfl, hlo, hon, hb1⟩; have HB1 : Hid (Below w.heap.size w w1) := hb1; have HW : Hid (WkOn w1 wb l) := hon; clear hb1 hon hlo)
          | (go_at_call 18; refine (HAT.out _ _ HW.out).mono ?_; rintro e w2 ⟨rfl, hb2⟩; have HB2 : Hid (Below w.heap.size w w2) := HB1.out.trans (hb2.mono HB1.out.size); clear hb2))
        obtain ⟨W3, hW3⟩ : ∃ W3, W3 = w2.alloc (.cells #[.string ⟨#[]⟩, .int .i64 0] 39) := ⟨_, rfl⟩
        obtain ⟨pb, hpb⟩ : ∃ pb, pb = w2.heap.size := ⟨_, rfl⟩
        rw [← hW3, ← hpb]
        have hb3 : Below w2.heap.size w2 W3 := by rw [hW3]; exact (Below.refl _ w2).alloc (Nat.le_refl _) _
        have HB3 : Hid (Below w.heap.size w W3) := HB2.out.trans (hb3.mono HB2.out.size)
        have HP : Hid (∀ W, Below W3.heap.size W3 W → W.cell? ⟨pb, 0, none⟩ = some (.string ⟨#[]⟩) ∧ W.cell? ⟨pb, 1, none⟩ = some (.int .i64 0)) := fun W hW => by
          have h1 : W3.cell? ⟨pb, 0, none⟩ = some (.string ⟨#[]⟩) := by rw [hW3, hpb]; simp
          have h2 : W3.cell? ⟨pb, 1, none⟩ = some (.int .i64 0) := by rw [hW3, hpb]; simp
          exact ⟨(hW.cell (p := ⟨pb, 0, none⟩) (World.block_lt_of_cell? _ _ h1)).trans h1, (hW.cell (p := ⟨pb, 1, none⟩) (World.block_lt_of_cell? _ _ h2)).trans h2⟩
        clear hW3 hpb hb3
        go_wp2_with (go_at_call 11; refine (HAL.out _ HB3.out).mono ?_; rintro e w4 ⟨rfl, hb4⟩; obtain ⟨p0, p1⟩ := HP.out w4 hb4; have HB4 : Hid (Below w.heap.size w w4) := HB3.out.trans (hb4.mono HB3.out.size); clear hb4)
        go_ret
        exact ⟨by first | rfl | simp, HB4.out⟩
end Go.Proofs.YthjlihhknaelaaaDoor
