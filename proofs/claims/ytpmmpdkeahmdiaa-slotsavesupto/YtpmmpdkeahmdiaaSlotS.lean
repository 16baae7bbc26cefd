/- The slot's Save. -/
import Derived.Test.YtpmmpdkeahmdiaaSlotV
namespace Go.Proofs.Ytpmmpdkeahmdiaa
open Go.RowKit
set_option maxRecDepth 100000

/-- The disk behind a Save, and what is told. -/
def saveD (d : DS) (a : Int) (n : Nat) (xs : List Nat) : DS × Int :=
  if 48 < xs.length ∨ n = 18446744073709551615 then (d, 40) else
    if wrE d a (((n + 1) % 2 : Nat) : Int) (laySec (n + 1) xs) = 0 then (syD (wrD d a (((n + 1) % 2 : Nat) : Int) (laySec (n + 1) xs)) a, stepE (wrD d a (((n + 1) % 2 : Nat) : Int) (laySec (n + 1) xs)))
    else (wrD d a (((n + 1) % 2 : Nat) : Int) (laySec (n + 1) xs), wrE d a (((n + 1) % 2 : Nat) : Int) (laySec (n + 1) xs))
structure SaveAt (N s p : Nat) (d : DS) (fp : List Nat) (a : Int) (n : Nat) (ys xs : List Nat) (g : Nat) (w : World) (c : Int) (w' : World) (fp' : List Nat) (g' : Nat) : Prop where
  disk : DiskAt (N + 2) w' p (saveD d a n xs).1 fp'
  slot : SlotAt w' s p a (if c = 0 then n + 1 else n) (if c = 0 then xs else ys) g'
  sub : ∀ b ∈ fp', b ∈ fp ∨ w.heap.size ≤ b
  only : Only (s :: fp) w w'
  sf : s ∉ fp'
  gf : g' ∉ fp'
  gg : g' = g ∨ g' = s ∨ w.heap.size ≤ g'
def SaveSays (N s p : Nat) (d : DS) (fp : List Nat) (a : Int) (n : Nat) (ys xs : List Nat) (g : Nat) (w : World) (e : Ending) (w' : World) : Prop :=
  e = .returned (.int .i64 (saveD d a n xs).2) ∧ ∃ fp' g', SaveAt N s p d fp a n ys xs g w (saveD d a n xs).2 w' fp' g'
theorem SlotAt.put' {w : World} {s p : Nat} {a : Int} {n n' : Nat} {xs ys : List Nat} {g g' cap : Nat} {ao : Option Addr} (h : SlotAt w s p a n xs g) (hg : g' < w.heap.size) (hc : ys.length ≤ cap) (hno : ao = none → cap = 0) (hr : 0 < ys.length → g' ≠ s ∧ ∃ off, ao = some ⟨g', off, none⟩ ∧ ∀ i, i < ys.length → w.cell? ⟨g', off + i, none⟩ = some (bv (ys.getD i 0))) :
    SlotAt ((w.setCell ⟨s, 2, none⟩ (.int .u64 (n' : Int))).setCell ⟨s, 3, none⟩ (.slice ao ys.length cap)) s p a n' ys g' := by
  obtain ⟨ao0, c, h1, h2, h3, h4, h5⟩ := h
  have e1 := set_cell (set_cell h1 2 (.int .u64 (n' : Int))) 3 (.slice ao ys.length cap)
  refine ⟨ao, cap, e1, by simpa using hg, hc, hno, fun h0 => ?_⟩
  obtain ⟨hne, off, e, hr⟩ := hr h0
  refine ⟨off, e, fun i hi => ?_⟩
  refine (World.cell?_of_block (a := ⟨g', off + i, none⟩) ?_).trans (hr i hi)
  rw [Below.heap_setCell _ _ _ _ hne, Below.heap_setCell _ _ _ _ hne]
/-- What the walk reads of the slot. -/
structure SS (s p : Nat) (a : Int) (W : World) : Prop where
  c0 : W.cell? ⟨s, 0, none⟩ = some (.pointer (some ⟨p, 0, none⟩))
  c1 : W.cell? ⟨s, 1, none⟩ = some (.int .u64 a)
theorem SS.facts {s p : Nat} {a : Int} {W : World} (h : SS s p a W) : W.cell? ⟨s, 0, none⟩ = some (.pointer (some ⟨p, 0, none⟩)) ∧ W.cell? ⟨s, 1, none⟩ = some (.int .u64 a) := ⟨h.c0, h.c1⟩
theorem SlotAt.ss {w : World} {s p : Nat} {a : Int} {n : Nat} {xs : List Nat} {g : Nat} (h : SlotAt w s p a n xs g) : SS s p a w := by
  obtain ⟨_, _, c0, c1, _⟩ := h.cells; exact ⟨c0, c1⟩
theorem SlotAt.only {w w' : World} {s p : Nat} {a : Int} {n : Nat} {xs : List Nat} {g : Nat} {fp : List Nat} (h : SlotAt w s p a n xs g) (ho : Only fp w w') (hs : s ∉ fp) (hg : g ∉ fp) : SlotAt w' s p a n xs g := h.same ho.size (ho.block s h.lt.1 hs) (ho.block g h.lt.2 hg)
theorem row_keep {F : List Nat} {w w' : World} {v : Value} {xs : List Nat} (h : RowX F w v xs) (hz : w.heap.size ≤ w'.heap.size) (hk : ∀ b, b < w.heap.size → b ∉ F → w'.heap[b]? = w.heap[b]?) : Row w'.heap.size w' v xs := by
  obtain ⟨⟨ao, cap, rfl, hcap, hno, hc⟩, hx⟩ := h
  refine ⟨ao, cap, rfl, hcap, hno, fun h0 => ?_⟩
  obtain ⟨b, off, rfl, hN, hd⟩ := hc h0
  have := hx b off _ _ rfl h0
  exact ⟨b, off, rfl, by omega, fun i hi => (World.cell?_of_block (a := ⟨b, off + i, none⟩) (hk b hN this)).trans (hd i hi)⟩
theorem Only.cons {fp : List Nat} {w w' : World} (h : Only fp w w') (s : Nat) : Only (s :: fp) w w' := ⟨h.os, h.tape, h.output, h.size, fun k hk hn => h.block k hk fun hm => hn (.tail _ hm)⟩
theorem only_sets {fp : List Nat} {w w' : World} (h : Only fp w w') (s : Nat) (u v : Value) : Only (s :: fp) w ((w'.setCell ⟨s, 2, none⟩ u).setCell ⟨s, 3, none⟩ v) := by
  have h1 := (one_setCell w' s 2 u).trans (one_setCell _ s 3 v)
  refine ⟨h1.os.trans h.os, h1.tape.trans h.tape, h1.output.trans h.output, by rw [h1.size]; exact h.size, fun k hk hn => (h1.block k fun e => hn (e ▸ .head _)).trans (h.block k hk fun hm => hn (.tail _ hm))⟩
attribute [local go_sem ↓] exec_alloc_S exec_box_S exec_load_S exec_store_S
attribute [local go_sem] verV_cells
set_option maxHeartbeats 1000000 in
theorem Save_long (N s p : Nat) (d : DS) (fp : List Nat) (a : Int) (n : Nat) (ys xs : List Nat) (g : Nat) (v : Value) (w : World) (hd : DiskAt N w p d fp) (hsl : SlotAt w s p a n ys g) (hs : s ∉ fp) (hg : g ∉ fp) (hr : RowX (s :: fp) w v xs) (hlg : 48 < xs.length ∨ n = 18446744073709551615) :
    Calls Try.prog 21 #[.pointer (some ⟨s, 0, none⟩), v] w (SaveSays N s p d fp a n ys xs g w) := by
  have HE : Hid (SaveSays N s p d fp a n ys xs g w (.returned (.int .i64 40)) w) := by
    have e1 : saveD d a n xs = (d, 40) := by unfold saveD; rw [if_pos hlg]
    refine ⟨by rw [e1], fp, g, ?_, ?_, fun b hb => .inl hb, Only.refl _ _, hs, hg, .inl rfl⟩
    · rw [e1]; exact hd.mono (by omega)
    · rw [e1]; exact hsl
  obtain ⟨ao, cap, rfl, _⟩ := hr.1.shape
  obtain ⟨_, _, c0, c1, c2, c3, cz, _⟩ := hsl.cells
  by_cases h1 : 48 < xs.length
  · have h1' : (48 : Int) < (xs.length : Int) := by omega
    clear hd hsl hs hg hr hlg
    go_enter Try.func21, Try.ntmps21
    go_wp2_with fail
    go_ret
    exact HE.out
  · have h1' : ¬ (48 : Int) < (xs.length : Int) := by omega
    have hn := hlg.resolve_left h1
    subst hn
    clear hd hsl hs hg hr hlg
    go_enter Try.func21, Try.ntmps21
    go_wp2_with fail
    go_ret
    exact HE.out
set_option maxHeartbeats 1000000 in
theorem Save_any (N s p : Nat) (d : DS) (fp : List Nat) (a : Int) (n : Nat) (ys xs : List Nat) (g : Nat) (v : Value) (w : World) (hd : DiskAt N w p d fp) (hsl : SlotAt w s p a n ys g) (hs : s ∉ fp) (hg : g ∉ fp) (hr : RowX (s :: fp) w v xs) (hx : ∀ x ∈ xs, x < 256) (hn : n < 18446744073709551616) (hN : N + 2 < 1099511627776) :
    Calls Try.prog 21 #[.pointer (some ⟨s, 0, none⟩), v] w (SaveSays N s p d fp a n ys xs g w) := by
  by_cases hlg : 48 < xs.length ∨ n = 18446744073709551615
  · exact Save_long N s p d fp a n ys xs g v w hd hsl hs hg hr hlg
  have h48 : xs.length ≤ 48 := by omega
  have hnm : n ≠ 18446744073709551615 := fun e => hlg (.inr e)
  have HLG : Hid (¬ (48 < xs.length ∨ n = 18446744073709551615)) := hlg
  have HD : Hid (DiskAt N w p d fp) := hd
  have HSL : Hid (SlotAt w s p a n ys g) := hsl
  have HS : Hid (s ∉ fp) := hs
  have HG : Hid (g ∉ fp) := hg
  have HX : Hid (∀ x ∈ xs, x < 256) := hx
  have HR : Hid (RowX (s :: fp) w v xs) := hr
  obtain ⟨ao, cap, rfl, _⟩ := hr.1.shape
  obtain ⟨_, _, c0, c1, c2, c3, cz, _⟩ := hsl.cells
  have h1' : ¬ (48 : Int) < (xs.length : Int) := by omega
  have h2' : ((n : Int) == 18446744073709551615) = false := by rw [Bool.eq_false_iff]; intro h; have := beq_iff_eq.1 h; omega
  have hslt := hsl.lt
  clear hd hsl hs hg hr hx hlg
  go_enter Try.func21, Try.ntmps21
  go_wp2_with fail
  obtain ⟨n1, hn1, hn1'⟩ : ∃ n1 : Nat, (n : Int) + 1 = (n1 : Int) ∧ n + 1 = n1 := ⟨n + 1, rfl, rfl⟩
  have HN1 : Hid (n + 1 = n1) := hn1'
  rw [hn1]
  refine (lay_any w.heap.size n1 _ xs w HR.out.1 (Nat.le_refl _) HX.out h48).mono ?_
  rintro e w2 ⟨rfl, hb2⟩
  obtain ⟨B, hB⟩ : ∃ B, laySec n1 xs = B := ⟨_, rfl⟩
  have hBl : B.length = 64 := by rw [← hB]; exact lay_len h48
  have HB : Hid (laySec n1 xs = B) := hB
  rw [hB]
  have A2 := ArrAt.new 104 w2 (zeros 64)
  have hst := storeS_at (vs := B) A2 (by simp [zeros]) hBl
  have o3 := setA_one A2 0 B
  have A3 := A2.set 0 B (by simp [zeros, hBl])
  rw [over_all (by simp [zeros, hBl])] at A3
  obtain ⟨w3, hw3⟩ : ∃ w3, setA (w2.alloc (.cells (verC (zeros 64)) 104)) w2.heap.size 0 B = w3 := ⟨_, rfl⟩
  have B3 : Hid (Below w.heap.size w w3) := hw3 ▸ setA_below (hb2.alloc hb2.size _) A2 hb2.size _ _
  rw [hw3] at hst o3 A3
  have hs2 := hb2.size
  have hs3 : w2.heap.size < w3.heap.size := A3.lt
  have A3H : Hid (ArrAt 104 w3.drew w2.heap.size B) := A3
  have S3H : Hid (SlotAt w3.drew s p a n ys g) := HSL.out.below B3.out.drew
  have D3H : Hid (DiskAt N w3.drew p d fp) := HD.out.below B3.out.drew
  have O3H : Hid (Only fp w w3.drew) := (Only.of_below B3.out).drew
  obtain ⟨k, hk⟩ : ∃ k, n1 % 2 = k := ⟨_, rfl⟩
  have HK : Hid ((n + 1) % 2 = k) := by show _ = _; rw [hn1']; exact hk
  have hk2 : (k : Int) < 2 := by omega
  have ht1 : Int.tmod (n1 : Int) 2 = (k : Int) := by rw [Int.tmod_eq_emod_of_nonneg (by omega)]; omega
  have ht2 : (n1 : Int) % 2 = (k : Int) := by omega
  have hn1l : (n1 : Int) < 18446744073709551616 := by omega
  have hwk : IntKind.i64.wrap (k : Int) = (k : Int) := by simp [IntKind.wrap, IntKind.bits, IntKind.signed]; omega
  clear hb2 hB A2 o3 A3 hw3 c0 c1 c2 c3 cz hn1 hn1' hk
  go_wp2_with fail
  clear hst
  refine region_at (S := SS s p a) 14 rfl (by kernel_rfl) S3H.out.ss (fun hHeld => ?_)
  refine take_at (i := 0) 27 rfl rfl (by kernel_rfl) (by kernel_rfl) (by kernel_rfl) (fun _ _ _ h => h) (by rfl) (fun w hSw => by (have hSw2 := SS.facts hSw; clear hSw; go_simp; first | done | exact rfl)) (by assumption) ?_
  simp only [List.setIfInBounds_toArray, List.set_cons_zero, List.set_cons_succ]
  refine take_at (i := 1) 28 rfl rfl (by kernel_rfl) (by kernel_rfl) (by kernel_rfl) (fun _ _ _ h => h) (by rfl) (fun w hSw => by (have hSw2 := SS.facts hSw; clear hSw; go_simp; first | done | exact rfl)) (by assumption) ?_
  simp only [List.setIfInBounds_toArray, List.set_cons_zero, List.set_cons_succ]
  refine take_at (i := 2) 29 rfl rfl (by kernel_rfl) (by kernel_rfl) (by kernel_rfl) (fun _ _ _ h => h) (by rfl) (fun w hSw => by (have hSw2 := SS.facts hSw; clear hSw; go_simp; first | done | exact rfl)) (by assumption) ?_
  simp only [List.setIfInBounds_toArray, List.set_cons_zero, List.set_cons_succ]
  refine take_at (i := 3) 30 rfl rfl (by kernel_rfl) (by kernel_rfl) (by kernel_rfl) (fun _ _ _ h => h) (by rfl) (fun w hSw => by (have hSw2 := SS.facts hSw; clear hSw; go_simp; first | done | exact rfl)) (by assumption) ?_
  simp only [List.setIfInBounds_toArray, List.set_cons_zero, List.set_cons_succ]
  refine take_at (i := 4) 31 rfl rfl (by kernel_rfl) (by kernel_rfl) (by kernel_rfl) (fun _ _ _ h => h) (by rfl) (fun w hSw => by (have hSw2 := SS.facts hSw; clear hSw; go_simp; first | done | exact rfl)) (by assumption) ?_
  simp only [List.setIfInBounds_toArray, List.set_cons_zero, List.set_cons_succ]
  refine take_at (i := 5) 32 rfl rfl (by kernel_rfl) (by kernel_rfl) (by kernel_rfl) (fun _ _ _ h => h) (by rfl) (fun w hSw => by (have hSw2 := SS.facts hSw; clear hSw; go_simp; first | done | exact rfl)) (by assumption) ?_
  simp only [List.setIfInBounds_toArray, List.set_cons_zero, List.set_cons_succ]
  refine take_at (i := 6) 33 rfl rfl (by kernel_rfl) (by kernel_rfl) (by kernel_rfl) (fun _ _ _ h => h) (by rfl) (fun w hSw => by (have hSw2 := SS.facts hSw; clear hSw; go_simp; first | done | exact rfl)) (by assumption) ?_
  simp only [List.setIfInBounds_toArray, List.set_cons_zero, List.set_cons_succ]
  refine take_at (i := 7) 34 rfl rfl (by kernel_rfl) (by kernel_rfl) (by kernel_rfl) (fun _ _ _ h => h) (by rfl) (fun w hSw => by (have hSw2 := SS.facts hSw; clear hSw; go_simp; first | done | exact rfl)) (by assumption) ?_
  simp only [List.setIfInBounds_toArray, List.set_cons_zero, List.set_cons_succ]
  refine take_at (i := 8) 35 rfl rfl (by kernel_rfl) (by kernel_rfl) (by kernel_rfl) (fun _ _ _ h => h) (by rfl) (fun w hSw => by (have hSw2 := SS.facts hSw; clear hSw; go_simp; first | done | exact rfl)) (by assumption) ?_
  simp only [List.setIfInBounds_toArray, List.set_cons_zero, List.set_cons_succ]
  refine take_at (i := 9) 36 rfl rfl (by kernel_rfl) (by kernel_rfl) (by kernel_rfl) (fun _ _ _ h => h) (by rfl) (fun w hSw => by (have hSw2 := SS.facts hSw; clear hSw; go_simp; first | done | exact rfl)) (by assumption) ?_
  simp only [List.setIfInBounds_toArray, List.set_cons_zero, List.set_cons_succ]
  refine take_at (i := 10) 37 rfl rfl (by kernel_rfl) (by kernel_rfl) (by kernel_rfl) (fun _ _ _ h => h) (by rfl) (fun w hSw => by (have hSw2 := SS.facts hSw; clear hSw; go_simp; first | done | exact rfl)) (by assumption) ?_
  simp only [List.setIfInBounds_toArray, List.set_cons_zero, List.set_cons_succ]
  refine take_at (i := 11) 38 rfl rfl (by kernel_rfl) (by kernel_rfl) (by kernel_rfl) (fun _ _ _ h => h) (by rfl) (fun w hSw => by (have hSw2 := SS.facts hSw; clear hSw; go_simp; first | done | exact rfl)) (by assumption) ?_
  simp only [List.setIfInBounds_toArray, List.set_cons_zero, List.set_cons_succ]
  refine one_call (i := 12) (w0 := w3.drew) 39 25 #[.pointer (some ⟨p, 0, none⟩), .int .u64 a, .int .i64 (k : Int), .slice (some ⟨w2.heap.size, 0, none⟩) 64 64] (by kernel_rfl) rfl rfl (by rfl) (by kernel_rfl) ?_
  have hrow : RowX fp w3.drew (.slice (some ⟨w2.heap.size, 0, none⟩) 64 64) B := by
    refine ⟨?_, fun b off len cap e _ hm => ?_⟩
    · have h := A3H.out.row 0 64 64 (by omega) (by omega) (show w2.heap.size < w3.drew.heap.size from hs3)
      rwa [List.drop_zero, List.take_of_length_le (by omega)] at h
    · simp only [Value.slice.injEq, Option.some.injEq, Addr.mk.injEq] at e
      have := HD.out.lt b hm
      omega
  refine (Write_any N p d fp a (k : Int) _ B w3.drew D3H.out hrow (by omega) (by omega)).mono ?_
  rintro e w4 ⟨rfl, fp1, hd4, ho4, hf4⟩
  have S4 := S3H.out.only ho4 HS.out HG.out
  refine ⟨_, rfl, S4.ss, fun _ => ?_⟩
  simp only [List.setIfInBounds_toArray, List.set_cons_zero, List.set_cons_succ]
  obtain ⟨e1, he1⟩ : ∃ e1, wrE d a (k : Int) B = e1 := ⟨_, rfl⟩
  rw [he1]
  have HE1 : Hid (wrE d a (((n + 1) % 2 : Nat) : Int) (laySec (n + 1) xs) = e1) := by show _ = _; rw [HK.out, HN1.out, HB.out]; exact he1
  obtain ⟨d1, hd1⟩ : ∃ d1, wrD d a (k : Int) B = d1 := ⟨_, rfl⟩
  rw [hd1] at hd4
  have HD1 : Hid (wrD d a (((n + 1) % 2 : Nat) : Int) (laySec (n + 1) xs) = d1) := by show _ = _; rw [HK.out, HN1.out, HB.out]; exact hd1
  refine take_at (i := 13) 7 rfl rfl (by kernel_rfl) (by kernel_rfl) (by kernel_rfl) (fun _ _ _ h => h) (by rfl) (fun w hSw => by (clear hSw; go_simp; first | done | exact rfl)) (by assumption) ?_
  simp only [List.setIfInBounds_toArray, List.set_cons_zero, List.set_cons_succ]
  refine wpAnyH_done (by kernel_rfl) ?_ _
  have O4H : Hid (Only fp w w4) := O3H.out.trans ho4 fun x hx => .inl hx
  have D4H : Hid (DiskAt (N + 1) w4 p d1 fp1) := hd4
  have F4H : Hid (∀ b ∈ fp1, b ∈ fp ∨ w.heap.size ≤ b) := fun b hb => (hf4 b hb).imp id fun h => by have h2 : w3.heap.size ≤ b := h; omega
  have S4H : Hid (SlotAt w4 s p a n ys g) := S4
  clear hHeld hrow S4 hd4 ho4 hf4 he1 hd1 ht1 ht2 hk2
  have SF1 : Hid (s ∉ fp1) := fun hm => by rcases F4H.out s hm with h | h; exact HS.out h; omega
  have GF1 : Hid (g ∉ fp1) := fun hm => by rcases F4H.out g hm with h | h; exact HG.out h; omega
  by_cases h0 : e1 = 0
  · subst h0
    go_wp2_with fail
    have S4d : SlotAt w4.drew s p a n ys g := S4H.out
    refine region_at (S := SS s p a) 10 rfl (by kernel_rfl) S4d.ss (fun hHeld => ?_)
    refine take_at (i := 0) 43 rfl rfl (by kernel_rfl) (by kernel_rfl) (by kernel_rfl) (fun _ _ _ h => h) (by rfl) (fun w hSw => by (have hSw2 := SS.facts hSw; clear hSw; go_simp; first | done | exact rfl)) (by assumption) ?_
    simp only [List.setIfInBounds_toArray, List.set_cons_zero, List.set_cons_succ]
    refine take_at (i := 1) 44 rfl rfl (by kernel_rfl) (by kernel_rfl) (by kernel_rfl) (fun _ _ _ h => h) (by rfl) (fun w hSw => by (have hSw2 := SS.facts hSw; clear hSw; go_simp; first | done | exact rfl)) (by assumption) ?_
    simp only [List.setIfInBounds_toArray, List.set_cons_zero, List.set_cons_succ]
    refine take_at (i := 2) 45 rfl rfl (by kernel_rfl) (by kernel_rfl) (by kernel_rfl) (fun _ _ _ h => h) (by rfl) (fun w hSw => by (have hSw2 := SS.facts hSw; clear hSw; go_simp; first | done | exact rfl)) (by assumption) ?_
    simp only [List.setIfInBounds_toArray, List.set_cons_zero, List.set_cons_succ]
    refine take_at (i := 3) 46 rfl rfl (by kernel_rfl) (by kernel_rfl) (by kernel_rfl) (fun _ _ _ h => h) (by rfl) (fun w hSw => by (have hSw2 := SS.facts hSw; clear hSw; go_simp; first | done | exact rfl)) (by assumption) ?_
    simp only [List.setIfInBounds_toArray, List.set_cons_zero, List.set_cons_succ]
    refine take_at (i := 4) 47 rfl rfl (by kernel_rfl) (by kernel_rfl) (by kernel_rfl) (fun _ _ _ h => h) (by rfl) (fun w hSw => by (have hSw2 := SS.facts hSw; clear hSw; go_simp; first | done | exact rfl)) (by assumption) ?_
    simp only [List.setIfInBounds_toArray, List.set_cons_zero, List.set_cons_succ]
    refine take_at (i := 5) 48 rfl rfl (by kernel_rfl) (by kernel_rfl) (by kernel_rfl) (fun _ _ _ h => h) (by rfl) (fun w hSw => by (have hSw2 := SS.facts hSw; clear hSw; go_simp; first | done | exact rfl)) (by assumption) ?_
    simp only [List.setIfInBounds_toArray, List.set_cons_zero, List.set_cons_succ]
    refine take_at (i := 6) 49 rfl rfl (by kernel_rfl) (by kernel_rfl) (by kernel_rfl) (fun _ _ _ h => h) (by rfl) (fun w hSw => by (have hSw2 := SS.facts hSw; clear hSw; go_simp; first | done | exact rfl)) (by assumption) ?_
    simp only [List.setIfInBounds_toArray, List.set_cons_zero, List.set_cons_succ]
    refine take_at (i := 7) 50 rfl rfl (by kernel_rfl) (by kernel_rfl) (by kernel_rfl) (fun _ _ _ h => h) (by rfl) (fun w hSw => by (have hSw2 := SS.facts hSw; clear hSw; go_simp; first | done | exact rfl)) (by assumption) ?_
    simp only [List.setIfInBounds_toArray, List.set_cons_zero, List.set_cons_succ]
    refine one_call (i := 8) (w0 := w4.drew) 51 51 #[.pointer (some ⟨p, 0, none⟩), .int .u64 a] (by kernel_rfl) rfl rfl (by rfl) (by kernel_rfl) ?_
    refine (Sync_any (N + 1) p d1 fp1 a w4.drew (D4H.out.same fun _ _ => rfl) (by omega)).mono ?_
    rintro e w5 ⟨rfl, fp2, hd5, ho5, hf5⟩
    have S5 := S4d.only ho5 SF1.out GF1.out
    refine ⟨_, rfl, S5.ss, fun _ => ?_⟩
    simp only [List.setIfInBounds_toArray, List.set_cons_zero, List.set_cons_succ]
    obtain ⟨e2, he2⟩ : ∃ e2, stepE d1 = e2 := ⟨_, rfl⟩
    rw [he2]
    have HSV : Hid (saveD d a n xs = (syD d1 a, e2)) := by show _ = _; rw [saveD, if_neg HLG.out, if_pos HE1.out, HD1.out, he2]
    refine take_at (i := 9) 8 rfl rfl (by kernel_rfl) (by kernel_rfl) (by kernel_rfl) (fun _ _ _ h => h) (by rfl) (fun w hSw => by (clear hSw; go_simp; first | done | exact rfl)) (by assumption) ?_
    simp only [List.setIfInBounds_toArray, List.set_cons_zero, List.set_cons_succ]
    refine wpAnyH_done (by kernel_rfl) ?_ _
    have O5H : Hid (Only fp w w5) := O4H.out.drew.trans ho5 F4H.out
    have D5H : Hid (DiskAt (N + 2) w5 p (syD d1 a) fp2) := hd5
    have F5H : Hid (∀ b ∈ fp2, b ∈ fp ∨ w.heap.size ≤ b) := fun b hb => by
      rcases hf5 b hb with h | h
      · exact F4H.out b h
      · have h2 : w4.heap.size ≤ b := h
        have := O4H.out.size
        exact .inr (by omega)
    have S5H : Hid (SlotAt w5 s p a n ys g) := S5
    have SF2 : Hid (s ∉ fp2) := fun hm => by rcases F5H.out s hm with h | h; exact HS.out h; omega
    have GF2 : Hid (g ∉ fp2) := fun hm => by rcases F5H.out g hm with h | h; exact HG.out h; omega
    clear hHeld S4d S5 hd5 ho5 hf5 he2
    by_cases h3 : e2 = 0
    · subst h3
      have hrow5 := row_keep HR.out O5H.out.size fun b hb hn => O5H.out.block b hb fun hm => hn (.tail _ hm)
      have HR5 : Hid (Row w5.heap.size w5 (.slice ao xs.length cap) xs) := hrow5
      clear hrow5
      go_wp2_with fail
      refine (cloneB_any _ _ xs w5 HR5.out (by omega)).mono ?_
      rintro e w6 ⟨hb6, hcl⟩
      have S6 := S5H.out.below hb6
      have D6 : DiskAt (N + 2) w6 p (syD d1 a) fp2 := D5H.out.below hb6
      have O6 : Only fp w w6 := O5H.out.trans (Only.of_below (fp := []) hb6) fun x hx => by cases hx
      obtain ⟨_, _, _, _, q2, q3, qz, _⟩ := S6.cells
      have hlt6 := S6.lt
      have hs5s := O5H.out.size
      have hfp2 := D5H.out.lt
      rcases hcl with ⟨hx0, rfl⟩ | ⟨g2, cap2, rfl, hcp2, hg2, hg2l, hcs⟩
      · subst hx0
        have SN := S6.put' (n' := n1) (ys := []) (g' := s) (cap := 0) (ao := none) hlt6.1 (Nat.le_refl _) (fun _ => rfl) (fun h => by simp at h)
        have DN : DiskAt (N + 2) ((w6.setCell ⟨s, 2, none⟩ (.int .u64 (n1 : Int))).setCell ⟨s, 3, none⟩ (.slice none 0 0)) p (syD d1 a) fp2 := D6.same fun b hb => by
          have hne : b ≠ s := fun e => SF2.out (e ▸ hb)
          rw [Below.heap_setCell _ _ _ _ hne, Below.heap_setCell _ _ _ _ hne]
        have HE : Hid (SaveSays N s p d fp a n ys [] g w (.returned (.int .i64 0)) ((w6.setCell ⟨s, 2, none⟩ (.int .u64 (n1 : Int))).setCell ⟨s, 3, none⟩ (.slice none 0 0))) := by
          refine ⟨by rw [HSV.out], fp2, s, by rw [HSV.out]; exact DN, ?_, F5H.out, only_sets O6 s _ _, SF2.out, SF2.out, .inr (.inl rfl)⟩
          rw [HSV.out]; show SlotAt _ s p a (n + 1) [] s; rw [HN1.out]; exact SN
        obtain ⟨wz, hwz⟩ : ∃ wz, (w6.setCell ⟨s, 2, none⟩ (.int .u64 (n1 : Int))).setCell ⟨s, 3, none⟩ (.slice none 0 0) = wz := ⟨_, rfl⟩
        rw [hwz] at HE
        have HWZ : Hid ((w6.setCell ⟨s, 2, none⟩ (.int .u64 (n1 : Int))).setCell ⟨s, 3, none⟩ (.slice none 0 0) = wz) := hwz
        clear SN DN hwz S6 D6 O6 hb6 hfp2
        go_wp2_with fail
        rw [HWZ.out]
        go_ret
        exact HE.out
      · have SN := S6.put' (n' := n1) (ys := xs) (g' := g2) (cap := cap2) (ao := some ⟨g2, 0, none⟩) hg2l hcp2 (fun h => by cases h) (fun _ => ⟨by omega, 0, rfl, hcs⟩)
        have DN : DiskAt (N + 2) ((w6.setCell ⟨s, 2, none⟩ (.int .u64 (n1 : Int))).setCell ⟨s, 3, none⟩ (.slice (some ⟨g2, 0, none⟩) xs.length cap2)) p (syD d1 a) fp2 := D6.same fun b hb => by
          have hne : b ≠ s := fun e => SF2.out (e ▸ hb)
          rw [Below.heap_setCell _ _ _ _ hne, Below.heap_setCell _ _ _ _ hne]
        have HE : Hid (SaveSays N s p d fp a n ys xs g w (.returned (.int .i64 0)) ((w6.setCell ⟨s, 2, none⟩ (.int .u64 (n1 : Int))).setCell ⟨s, 3, none⟩ (.slice (some ⟨g2, 0, none⟩) xs.length cap2))) := by
          refine ⟨by rw [HSV.out], fp2, g2, by rw [HSV.out]; exact DN, ?_, F5H.out, only_sets O6 s _ _, SF2.out, fun hm => by have := hfp2 g2 hm; omega, .inr (.inr (by omega))⟩
          rw [HSV.out]; show SlotAt _ s p a (n + 1) xs g2; rw [HN1.out]; exact SN
        obtain ⟨wz, hwz⟩ : ∃ wz, (w6.setCell ⟨s, 2, none⟩ (.int .u64 (n1 : Int))).setCell ⟨s, 3, none⟩ (.slice (some ⟨g2, 0, none⟩) xs.length cap2) = wz := ⟨_, rfl⟩
        rw [hwz] at HE
        have HWZ : Hid ((w6.setCell ⟨s, 2, none⟩ (.int .u64 (n1 : Int))).setCell ⟨s, 3, none⟩ (.slice (some ⟨g2, 0, none⟩) xs.length cap2) = wz) := hwz
        clear SN DN hwz S6 D6 O6 hb6 hfp2 hcs
        go_wp2_with fail
        rw [HWZ.out]
        go_ret
        exact HE.out
    · have h3' : (e2 != 0) = true := by simpa using h3
      have HE : Hid (SaveSays N s p d fp a n ys xs g w (.returned (.int .i64 e2)) w5) := by
        refine ⟨by rw [HSV.out], fp2, g, by rw [HSV.out]; exact D5H.out, ?_, F5H.out, O5H.out.cons s, SF2.out, GF2.out, .inl rfl⟩
        rw [HSV.out]; show SlotAt w5 s p a (if e2 = 0 then n + 1 else n) (if e2 = 0 then xs else ys) g; rw [if_neg h3, if_neg h3]; exact S5H.out
      clear h3
      go_wp2_with fail
      go_ret
      exact HE.out
  · have h0' : (e1 != 0) = true := by simpa using h0
    have HE : Hid (SaveSays N s p d fp a n ys xs g w (.returned (.int .i64 e1)) w4) := by
      have hsv : saveD d a n xs = (d1, e1) := by rw [saveD, if_neg HLG.out, if_neg (by rw [HE1.out]; exact h0), HD1.out, HE1.out]
      refine ⟨by rw [hsv], fp1, g, by rw [hsv]; exact D4H.out.mono (by omega), ?_, F4H.out, O4H.out.cons s, SF1.out, GF1.out, .inl rfl⟩
      rw [hsv]; show SlotAt w4 s p a (if e1 = 0 then n + 1 else n) (if e1 = 0 then xs else ys) g; rw [if_neg h0, if_neg h0]; exact S4H.out
    clear h0
    go_wp2_with fail
    go_ret
    exact HE.out
end Go.Proofs.Ytpmmpdkeahmdiaa
