/- The areas with sectors, rising: the walk. -/
import Derived.Test.YtpmmpdkeahmdiaaAreas
import Derived.Test.YtpmmpdkeahmdiaaSrtUItr2
import Derived.Handy
namespace Go.Proofs.Ytpmmpdkeahmdiaa
open Go.RowKit Go.Sort Go.Lib
set_option maxRecDepth 100000

theorem held_below {w W : World} {sh : Sh} (h : Held w sh) (hb : Below w.heap.size w W) : Held W sh := h.same fun b hb2 => hb.block b (h.lt b hb2)
theorem riseL {w : World} {sh : Sh} (h : Held w sh) (hl : sh.L.length < 1099511627776) :
    Calls Try.prog 70 #[.map (some sh.lb)] w fun e w' => ∃ v, e = .returned v ∧ NumRow w' v (SrtU.sorted (keys sh.L)) ∧ Below w.heap.size w w' := by
  refine (IterL.rising_any (f := inV) (m := sh.L) (bo := some sh.lb) w h.hl.nodup hl (fun W hW => (held_below h hW).hl.range Try.underlying75)).mono ?_
  rintro e w' ⟨v, rfl, h1, h2, h3⟩
  exact ⟨v, rfl, NumRow.of_own h1, h3⟩
theorem riseF {w : World} {sh : Sh} (h : Held w sh) (hl : sh.F.length < 1099511627776) :
    Calls Try.prog 37 #[.map (some sh.fb)] w fun e w' => ∃ v, e = .returned v ∧ NumRow w' v (SrtU.sorted (keys sh.F)) ∧ Below w.heap.size w w' := by
  refine (IterF.rising_any (f := inV) (m := sh.F) (bo := some sh.fb) w h.hf.nodup hl (fun W hW => (held_below h hW).hf.range Try.underlying76)).mono ?_
  rintro e w' ⟨v, rfl, h1, h2, h3⟩
  exact ⟨v, rfl, NumRow.of_own h1, h3⟩
set_option maxHeartbeats 1000000 in
theorem Compact_nil (w : World) : Calls Try.prog 72 #[.slice none 0 0] w fun e w' => e = .returned (.slice none 0 0) ∧ w' = w := by
  go_enter Try.func72, Try.ntmps72
  go_wp2
  go_ret
  exact ⟨rfl, rfl⟩
set_option maxHeartbeats 8000000 in
theorem Areas_any (N : Nat) (p : Nat) (d : DS) (fp : List Nat) (w : World) (h : DiskAt N w p d fp) (hN : N < 1099511627776) :
    Calls Try.prog 40 #[.pointer (some ⟨p, 0, none⟩)] w fun e w' => ∃ v, e = .returned v ∧ NumRow w' v (areasS d.secs) ∧ Below w.heap.size w w' := by
  have hcl : d.secs.length ≤ N := h.bounds.2.2.2.2.1
  obtain ⟨sh, h1, h2, h3, _⟩ := h
  obtain ⟨c0, c1, c2, c3, c4, c5, c6, c7, hz⟩ := disk_cells h1
  have hpl : p < w.heap.size := (Array.getElem?_eq_some_iff.1 h1).1
  obtain ⟨hlL, hlF⟩ := len_areas h2 h3
  have HE : Hid (compactUpTo (SrtU.sorted (SrtU.sorted (keys sh.L) ++ SrtU.sorted (keys sh.F))).toArray (SrtU.sorted (SrtU.sorted (keys sh.L) ++ SrtU.sorted (keys sh.F))).toArray.size = areasS d.secs) := areas_eq h2 h3
  have HH : Hid (Held w sh) := h2
  have HS : Hid (SA p sh.lb sh.fb w.drew) := ⟨c6, c7⟩
  clear h1 h2 h3 c0 c1 c2 c3 c4 c5 c6 c7 hz
  have bd : Below w.heap.size w w.drew := (Below.refl _ w).drew
  go_enter Try.func40, Try.ntmps40
  go_wp2_with fail
  refine region_at (S := SA p sh.lb sh.fb) 13 rfl (by kernel_rfl) HS.out (fun hHeld => ?_)
  refine take_at (i := 0) 4 rfl rfl (by kernel_rfl) (by kernel_rfl) (by kernel_rfl) (fun _ _ _ h => h) (by rfl) (fun w hSw => by (have hSw2 := SA.facts hSw; clear hSw; go_simp; first | done | exact rfl)) (by assumption) ?_
  simp only [List.setIfInBounds_toArray, List.set_cons_zero, List.set_cons_succ]
  refine take_at (i := 1) 5 rfl rfl (by kernel_rfl) (by kernel_rfl) (by kernel_rfl) (fun _ _ _ h => h) (by rfl) (fun w hSw => by (have hSw2 := SA.facts hSw; clear hSw; go_simp; first | done | exact rfl)) (by assumption) ?_
  simp only [List.setIfInBounds_toArray, List.set_cons_zero, List.set_cons_succ]
  refine take_at (i := 2) 6 rfl rfl (by kernel_rfl) (by kernel_rfl) (by kernel_rfl) (fun _ _ _ h => h) (by rfl) (fun w hSw => by (have hSw2 := SA.facts hSw; clear hSw; go_simp; first | done | exact rfl)) (by assumption) ?_
  simp only [List.setIfInBounds_toArray, List.set_cons_zero, List.set_cons_succ]
  refine take_at (i := 3) 7 rfl rfl (by kernel_rfl) (by kernel_rfl) (by kernel_rfl) (fun _ _ _ h => h) (by rfl) (fun w hSw => by (have hSw2 := SA.facts hSw; clear hSw; go_simp; first | done | exact rfl)) (by assumption) ?_
  simp only [List.setIfInBounds_toArray, List.set_cons_zero, List.set_cons_succ]
  refine take_at (i := 5) 9 rfl rfl (by kernel_rfl) (by kernel_rfl) (by kernel_rfl) (fun _ _ _ h => h) (by rfl) (fun w hSw => by (have hSw2 := SA.facts hSw; clear hSw; go_simp; first | done | exact rfl)) (by assumption) ?_
  simp only [List.setIfInBounds_toArray, List.set_cons_zero, List.set_cons_succ]
  refine take_at (i := 6) 10 rfl rfl (by kernel_rfl) (by kernel_rfl) (by kernel_rfl) (fun _ _ _ h => h) (by rfl) (fun w hSw => by (have hSw2 := SA.facts hSw; clear hSw; go_simp; first | done | exact rfl)) (by assumption) ?_
  simp only [List.setIfInBounds_toArray, List.set_cons_zero, List.set_cons_succ]
  refine take_at (i := 7) 11 rfl rfl (by kernel_rfl) (by kernel_rfl) (by kernel_rfl) (fun _ _ _ h => h) (by rfl) (fun w hSw => by (have hSw2 := SA.facts hSw; clear hSw; go_simp; first | done | exact rfl)) (by assumption) ?_
  simp only [List.setIfInBounds_toArray, List.set_cons_zero, List.set_cons_succ]
  refine take_at (i := 8) 12 rfl rfl (by kernel_rfl) (by kernel_rfl) (by kernel_rfl) (fun _ _ _ h => h) (by rfl) (fun w hSw => by (have hSw2 := SA.facts hSw; clear hSw; go_simp; first | done | exact rfl)) (by assumption) ?_
  simp only [List.setIfInBounds_toArray, List.set_cons_zero, List.set_cons_succ]
  have hd : Held w.drew sh := held_below HH.out bd
  refine one_call (i := 4) (w0 := w.drew) 8 70 #[.map (some sh.lb)] (by kernel_rfl) rfl rfl (by rfl) (by kernel_rfl) ?_
  refine (riseL hd (by omega)).mono ?_
  rintro e w1 ⟨vL, rfl, rL, bL⟩
  refine ⟨vL, rfl, HS.out.below hpl bL, (fun _ => ?_)⟩
  simp only [List.setIfInBounds_toArray, List.set_cons_zero, List.set_cons_succ]
  refine one_call (i := 9) (w0 := w1) 13 37 #[.map (some sh.fb)] (by kernel_rfl) rfl rfl (by rfl) (by kernel_rfl) ?_
  refine (riseF (held_below hd bL) (by omega)).mono ?_
  rintro e w2 ⟨vF, rfl, rF, bF⟩
  have rL2 := rL.below bF
  have b2 : Below w.heap.size w w2 := bd.trans (bL.trans (bF.mono bL.size))
  refine ⟨vF, rfl, HS.out.below hpl (bL.trans (bF.mono bL.size)), fun _ => ?_⟩
  simp only [List.setIfInBounds_toArray, List.set_cons_zero, List.set_cons_succ]
  have hsS : SA p sh.lb sh.fb w2 := HS.out.below hpl (bL.trans (bF.mono bL.size))
  have b3 : Below w2.heap.size w2 (w2.alloc (.cells #[vL, vF] 80)) := (Below.refl _ w2).alloc (Nat.le_refl _) _
  have hpl2 : p < w2.heap.size := Nat.lt_of_lt_of_le hpl b2.size
  refine one_value (i := 10) (v := .slice (some ⟨w2.heap.size, 0, none⟩) 2 2) (w' := w2.alloc (.cells #[vL, vF] 80)) 14 (by kernel_rfl) rfl rfl (by rfl) ?_ (hsS.below hpl2 b3) (fun _ => ?_)
  · obtain ⟨aL, cL, rfl⟩ := rL2.form
    obtain ⟨aF, cF, rfl⟩ := rF.form
    go_simp
    first | done | exact rfl
  simp only [List.setIfInBounds_toArray, List.set_cons_zero, List.set_cons_succ]
  have hv1 : (SrtU.sorted (keys sh.L)).length < 8796093022208 := by rw [SrtU.sorted_length]; simp [keys]; omega
  have hv2 : (SrtU.sorted (keys sh.F)).length < 8796093022208 := by rw [SrtU.sorted_length]; simp [keys]; omega
  refine one_call (i := 11) (w0 := w2.alloc (.cells #[vL, vF] 80)) 15 69 #[.slice (some ⟨w2.heap.size, 0, none⟩) 2 2] (by kernel_rfl) rfl rfl (by rfl) (by kernel_rfl) ?_
  refine (Concat_any (w2.alloc (.cells #[vL, vF] 80)) w2.heap.size 2 vL vF (SrtU.sorted (keys sh.L)) (SrtU.sorted (keys sh.F)) (rL2.below b3) (rF.below b3) hv1 hv2 (by simp) (by go_simp) (by go_simp)).mono ?_
  rintro e w4 ⟨v, rfl, row4, b4⟩
  have b5 : Below w2.heap.size w2 w4 := b3.trans (b4.mono b3.size)
  have B4 : Hid (Below w.heap.size w w4) := b2.trans (b5.mono b2.size)
  refine ⟨v, rfl, hsS.below hpl2 b5, fun _ => ?_⟩
  simp only [List.setIfInBounds_toArray, List.set_cons_zero, List.set_cons_succ]
  refine one_value (i := 12) (v := v) (w' := w4) 3 (by kernel_rfl) rfl rfl (by rfl) (by kernel_rfl) (hsS.below hpl2 b5) (fun _ => ?_)
  refine wpAnyH_done (by kernel_rfl) ?_ _
  simp only [List.setIfInBounds_toArray, List.set_cons_zero, List.set_cons_succ]
  obtain ⟨xs, hxs⟩ : ∃ xs, SrtU.sorted (keys sh.L) ++ SrtU.sorted (keys sh.F) = xs := ⟨_, rfl⟩
  have HE2 : Hid (compactUpTo (SrtU.sorted xs).toArray (SrtU.sorted xs).toArray.size = areasS d.secs) := by show _ = _; rw [← hxs]; exact HE.out
  have hlen : (SrtU.sorted (keys sh.L)).length + (SrtU.sorted (keys sh.F)).length = xs.length := by rw [← hxs, List.length_append]
  rw [hxs, hlen] at row4
  have hxl : xs.length < 17592186044416 := by omega
  have hbs : w.heap.size ≤ (w2.alloc (.cells #[vL, vF] 80)).heap.size := Nat.le_trans b2.size b3.size
  clear b5 b4 b3 b2 bL bF rL rL2 rF hsS hHeld hd bd HE HS HH hxs hlen hv1 hv2 hlL hlF
  obtain ⟨q1, q2⟩ := row4
  rcases q2 with ⟨rfl, q3⟩ | ⟨g, cap, cur, rfl, k1, k2, k3, k4, k5, k6⟩
  · have hx : xs = [] := List.eq_nil_of_length_eq_zero q3
    subst hx
    go_wp2_with (first | (go_at_call 71; refine (SrtU.Sort_nil _).mono ?_; rintro e w5 ⟨rfl, rfl⟩) | (go_at_call 72; refine (Compact_nil _).mono ?_; rintro e w6 ⟨rfl, rfl⟩))
    go_ret
    refine ⟨_, rfl, .inl ⟨rfl, ?_⟩, B4.out⟩
    rw [← HE2.out]
    simp [SrtU.sorted, compactUpTo]
  · have hA : SrtU.At g 0 w4 w4 xs.length xs.toArray := SrtU.row_at k2 (by simpa using k6)
    have HA : Hid (Calls Try.prog 71 #[.slice (some ⟨g, 0, none⟩) xs.length cap] w4 fun e w' => e = .returned (.tuple #[]) ∧ SrtU.At g 0 w4 w' xs.length (SrtU.sorted xs).toArray) := by
      have := SrtU.Sort_any g 0 cap xs.length xs.toArray w4 w4 hA (Array.getElem?_eq_some_iff.1 k2).1 (by omega)
      show Calls _ _ _ _ _
      simpa using this
    have hsl : (SrtU.sorted xs).toArray.size = xs.length := by simp [SrtU.sorted_length]
    have HC : Hid (∀ w5, SrtU.At g 0 w4 w5 xs.length (SrtU.sorted xs).toArray → Calls Try.prog 72 #[.slice (some ⟨g, 0, none⟩) xs.length cap] w5 fun e w6 => e = .returned (.slice (some ⟨g, 0, none⟩) (areasS d.secs).length cap) ∧ NumRow w6 (.slice (some ⟨g, 0, none⟩) (areasS d.secs).length cap) (areasS d.secs) ∧ Below w.heap.size w w6) := by
      intro w5 h5
      have hc := Compact_any g 0 cap (SrtU.sorted xs).toArray w5 h5.holds (by omega) (by omega)
      rw [HE2.out, hsl] at hc
      refine hc.mono ?_
      rintro e w6 ⟨rfl, q, rfl⟩
      have hle : (areasS d.secs).length ≤ xs.length := by
        rw [← HE2.out, compactUpTo, List.length_map, ← hsl]
        exact Nat.le_trans (List.length_filter_le _ _) (by simp)
      obtain ⟨D, hD⟩ : ∃ D, (areasS d.secs ++ List.replicate (xs.length - (areasS d.secs).length) 0).toArray = D := ⟨_, rfl⟩
      have hds : D.size = (SrtU.sorted xs).toArray.size := by rw [hsl, ← hD]; simp; omega
      have hh := holds_putRow (Value.int .u64) (Sort.ahead w5 q) g 0 (SrtU.sorted xs).toArray D (holds_ahead _ _ _ _ _ _ h5.holds) hds
      have hoth : ∀ k, k ≠ g → (putRow (Value.int .u64) (Sort.ahead w5 q) g 0 D).heap[k]? = w5.heap[k]? := fun k hk => by simp [putRow, mapBlock, Array.getElem?_modify, Ne.symm hk]
      rw [hD]
      refine ⟨rfl, .inr ⟨g, cap, rfl, ?_, fun j u hj => ?_⟩, ?_⟩
      · rw [size_putRow]
        exact Nat.lt_of_lt_of_le (Array.getElem?_eq_some_iff.1 k2).1 h5.step.size
      · rw [List.getElem?_map] at hj
        obtain ⟨x, hx, rfl⟩ := Option.map_eq_some_iff.1 hj
        have hjl := (List.getElem?_eq_some_iff.1 hx).1
        have := (hh j (by rw [hds, hsl]; omega)).1
        rw [Nat.zero_add] at this
        rw [this, ← hD]
        congr 2
        have : (areasS d.secs ++ List.replicate (xs.length - (areasS d.secs).length) 0)[j]? = some x := by rw [List.getElem?_append_left hjl]; exact hx
        simp [this]
      · have hB := B4.out
        refine ⟨h5.step.os.trans hB.os, h5.step.tape.trans hB.tape, h5.step.output.trans hB.output, by rw [size_putRow]; exact Nat.le_trans hB.size h5.step.size, fun k hk => ?_⟩
        rw [hoth k (by omega), h5.step.block k (Nat.lt_of_lt_of_le hk hB.size) (by omega)]
        exact hB.block k hk
    clear hA k1 k2 k3 k4 k5 k6 q1 HE2
    go_wp2_with (first | (go_at_call 71; refine HA.out.mono ?_; rintro e w5 ⟨rfl, hA5⟩) | (go_at_call 72; refine (HC.out _ hA5).mono ?_; rintro e w6 ⟨rfl, hr6, hb6⟩))
    go_ret
    exact ⟨_, rfl, hr6, hb6⟩
end Go.Proofs.Ytpmmpdkeahmdiaa
