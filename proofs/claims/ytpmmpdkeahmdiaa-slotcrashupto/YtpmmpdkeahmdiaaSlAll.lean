/- Texts that were written apart, joined. -/
import Derived.Shelf.Lay
import Derived.Shelf.Bytes.SlClone
import Derived.Ground.SlbCloneProg
import Derived.Test.YtpmmpdkeahmdiaaSlotB
import Derived.Test.YtpmmpdkeahmdiaaSlotO
import Derived.Test.YtpmmpdkeahmdiaaLkAll
/- The slot's Value and Number; bytes.Clone. -/
namespace Go.Proofs.Ytpmmpdkeahmdiaa
open Go.RowKit Go.Shelf
set_option maxRecDepth 100000
shelf_lay SlLaysK.n4 Slk 4 at Try as cloneB
/-- Bytes, copied: none, or in a block of their own. -/
theorem cloneB_any (N : Nat) (v : Value) (xs : List Nat) (w : World) (hr : Row N w v xs) (hl : xs.length ≤ 140737488355328) :
    Calls Try.prog 57 #[v] w fun e w' => Below w.heap.size w w' ∧ ((xs = [] ∧ e = .returned (.slice none 0 0)) ∨ ∃ g cap, e = .returned (.slice (some ⟨g, 0, none⟩) xs.length cap) ∧ xs.length ≤ cap ∧ w.heap.size ≤ g ∧ g < w'.heap.size ∧ ∀ i, i < xs.length → w'.cell? ⟨g, 0 + i, none⟩ = some (bv (xs.getD i 0))) := by
  obtain ⟨ao, c, rfl, hcap, hno, hc⟩ := hr
  cases ao with
  | none =>
    have e : xs = [] := by
      cases xs with
      | nil => rfl
      | cons y r => obtain ⟨b, off, e, _⟩ := hc (by simp); cases e
    subst e
    have hcall : Calls Try.prog 57 #[.slice none 0 c] w fun e w' => e = .returned (.slice none 0 0) ∧ w' = w := Any.bytes_Clone_nil cloneB 0 c w
    refine hcall.mono ?_
    rintro e w' ⟨rfl, rfl⟩
    exact ⟨Below.refl _ _, .inl ⟨rfl, rfl⟩⟩
  | some a =>
    have hcall : Calls Try.prog 57 #[.slice (some a) xs.length c] w fun e w' => ∃ v', e = .returned v' ∧ w'.ownsRow w.heap.size 5 1 v' xs.length ((xs.map Int.ofNat).map (Value.int .u8)) ∧ v' ≠ .slice none 0 0 ∧ Below w.heap.size w w' :=
      Any.bytes_Clone_at cloneB a xs.length c (xs.map Int.ofNat) w (by simp) hl (fun i hi => by
        obtain ⟨b, off, e2, _, hc2⟩ := hc (by omega)
        obtain rfl := Option.some.inj e2
        have hadd : (⟨b, off, none⟩ : Addr).add i = ⟨b, off + i, none⟩ := by unfold Addr.add; split <;> simp_all
        rw [hadd, hc2 i hi]
        simp [List.getD_eq_getElem?_getD, List.getElem?_eq_getElem hi])
    refine hcall.mono ?_
    rintro e w' ⟨v', rfl, ⟨k1, ⟨e1, _⟩ | ⟨g, cap, cur, rfl, hg, hb2, k2, k3, k4, k5⟩⟩, hne, hbw⟩
    · exact absurd e1 hne
    · refine ⟨hbw, .inr ⟨g, cap, rfl, k2, hg, (Array.getElem?_eq_some_iff.1 hb2).1, fun i hi => ?_⟩⟩
      have e2 : ((xs.map Int.ofNat).map (Value.int .u8))[i]? = some (bv (xs.getD i 0)) := by
        simp [List.getElem?_eq_getElem hi, List.getD_eq_getElem?_getD]
      rw [← k5, List.getElem?_take, if_pos (by omega)] at e2
      rw [Nat.zero_add]
      simpa [World.cell?, hb2] using e2
set_option maxHeartbeats 1000000 in
theorem Number_any (w : World) (s p : Nat) (a : Int) (n : Nat) (xs : List Nat) (g : Nat) (h : SlotAt w s p a n xs g) :
    Calls Try.prog 22 #[.pointer (some ⟨s, 0, none⟩)] w fun e w' => e = .returned (.int .u64 (n : Int)) ∧ w' = w := by
  obtain ⟨ao, cap, c0, c1, c2, c3, cz, _⟩ := h.cells
  clear h
  go_enter Try.func22, Try.ntmps22
  go_wp2
  go_ret
  exact ⟨rfl, rfl⟩
set_option maxHeartbeats 1000000 in
theorem Value_any (w : World) (s p : Nat) (a : Int) (n : Nat) (xs : List Nat) (g : Nat) (h : SlotAt w s p a n xs g) (hl : xs.length ≤ 140737488355328) :
    Calls Try.prog 23 #[.pointer (some ⟨s, 0, none⟩)] w fun e w' => (∃ v, e = .returned v ∧ Row w'.heap.size w' v xs) ∧ Below w.heap.size w w' := by
  obtain ⟨ao, cap, c0, c1, c2, c3, cz, hr⟩ := h.cells
  have HR : Hid (Row w.heap.size w (.slice ao xs.length cap) xs) := hr
  clear h hr
  go_enter Try.func23, Try.ntmps23
  go_wp2_with fail
  refine (cloneB_any _ _ xs w HR.out hl).mono ?_
  rintro e w2 ⟨hb, ⟨hx, rfl⟩ | ⟨g2, cap2, rfl, hc2, _, hg2, hcells⟩⟩
  · subst hx
    have HB : Hid (Below w.heap.size w w2) := hb
    clear hb
    go_wp2_with fail
    go_ret
    exact ⟨⟨_, rfl, none, 0, rfl, Nat.le_refl _, fun _ => rfl, fun h => by simp at h⟩, HB.out⟩
  · have HB : Hid (Below w.heap.size w w2) := hb
    have HC : Hid (∀ i, i < xs.length → w2.cell? ⟨g2, 0 + i, none⟩ = some (bv (xs.getD i 0))) := hcells
    clear hb hcells
    go_wp2_with fail
    go_ret
    exact ⟨⟨_, rfl, some ⟨g2, 0, none⟩, cap2, rfl, hc2, (fun h => by cases h), fun _ => ⟨g2, 0, rfl, hg2, HC.out⟩⟩, HB.out⟩
end Go.Proofs.Ytpmmpdkeahmdiaa

/- The slot's Save. -/
namespace Go.Proofs.Ytpmmpdkeahmdiaa
open Go.RowKit
set_option maxRecDepth 100000

/-- The disk behind a Save, and what is told. -/
def saveD (d : DS) (a : Int) (n : Nat) (xs : List Nat) : DS × Int :=
  if 48 < xs.length ∨ n = 18446744073709551615 then (d, 40) else
    if wrE d a (((n + 1) % 2 : Nat) : Int) (laySec (n + 1) xs) = 0 then (syD (wrD d a (((n + 1) % 2 : Nat) : Int) (laySec (n + 1) xs)) a, stepE (wrD d a (((n + 1) % 2 : Nat) : Int) (laySec (n + 1) xs)))
    else (wrD d a (((n + 1) % 2 : Nat) : Int) (laySec (n + 1) xs), wrE d a (((n + 1) % 2 : Nat) : Int) (laySec (n + 1) xs))
structure SaveAt (N s p : Nat) (d : DS) (fp : List Nat) (a : Int) (n : Nat) (ys xs : List Nat) (g : Nat) (w : World) (c : Int) (w' : World) (fp' : List Nat) (g' : Nat) : Prop where
  disk : DiskAt (N + 2) w' p (saveD d a n xs).1 fp'
  slot : SlotAt w' s p a (if c = 0 then n + 1 else n) (if c = 0 then xs else ys) g'
  sub : ∀ b ∈ fp', b ∈ fp ∨ w.heap.size ≤ b
  only : Only (s :: fp) w w'
  sf : s ∉ fp'
  gf : g' ∉ fp'
  gg : g' = g ∨ g' = s ∨ w.heap.size ≤ g'
def SaveSays (N s p : Nat) (d : DS) (fp : List Nat) (a : Int) (n : Nat) (ys xs : List Nat) (g : Nat) (w : World) (e : Ending) (w' : World) : Prop :=
  e = .returned (.int .i64 (saveD d a n xs).2) ∧ ∃ fp' g', SaveAt N s p d fp a n ys xs g w (saveD d a n xs).2 w' fp' g'
theorem SlotAt.put' {w : World} {s p : Nat} {a : Int} {n n' : Nat} {xs ys : List Nat} {g g' cap : Nat} {ao : Option Addr} (h : SlotAt w s p a n xs g) (hg : g' < w.heap.size) (hc : ys.length ≤ cap) (hno : ao = none → cap = 0) (hr : 0 < ys.length → g' ≠ s ∧ ∃ off, ao = some ⟨g', off, none⟩ ∧ ∀ i, i < ys.length → w.cell? ⟨g', off + i, none⟩ = some (bv (ys.getD i 0))) :
    SlotAt ((w.setCell ⟨s, 2, none⟩ (.int .u64 (n' : Int))).setCell ⟨s, 3, none⟩ (.slice ao ys.length cap)) s p a n' ys g' := by
  obtain ⟨ao0, c, h1, h2, h3, h4, h5⟩ := h
  have e1 := set_cell (set_cell h1 2 (.int .u64 (n' : Int))) 3 (.slice ao ys.length cap)
  refine ⟨ao, cap, e1, by simpa using hg, hc, hno, fun h0 => ?_⟩
  obtain ⟨hne, off, e, hr⟩ := hr h0
  refine ⟨off, e, fun i hi => ?_⟩
  refine (World.cell?_of_block (a := ⟨g', off + i, none⟩) ?_).trans (hr i hi)
  rw [Below.heap_setCell _ _ _ _ hne, Below.heap_setCell _ _ _ _ hne]
/-- What the walk reads of the slot. -/
structure SS (s p : Nat) (a : Int) (W : World) : Prop where
  c0 : W.cell? ⟨s, 0, none⟩ = some (.pointer (some ⟨p, 0, none⟩))
  c1 : W.cell? ⟨s, 1, none⟩ = some (.int .u64 a)
theorem SS.facts {s p : Nat} {a : Int} {W : World} (h : SS s p a W) : W.cell? ⟨s, 0, none⟩ = some (.pointer (some ⟨p, 0, none⟩)) ∧ W.cell? ⟨s, 1, none⟩ = some (.int .u64 a) := ⟨h.c0, h.c1⟩
theorem SlotAt.ss {w : World} {s p : Nat} {a : Int} {n : Nat} {xs : List Nat} {g : Nat} (h : SlotAt w s p a n xs g) : SS s p a w := by
  obtain ⟨_, _, c0, c1, _⟩ := h.cells; exact ⟨c0, c1⟩
theorem SlotAt.only {w w' : World} {s p : Nat} {a : Int} {n : Nat} {xs : List Nat} {g : Nat} {fp : List Nat} (h : SlotAt w s p a n xs g) (ho : Only fp w w') (hs : s ∉ fp) (hg : g ∉ fp) : SlotAt w' s p a n xs g := h.same ho.size (ho.block s h.lt.1 hs) (ho.block g h.lt.2 hg)
theorem row_keep {F : List Nat} {w w' : World} {v : Value} {xs : List Nat} (h : RowX F w v xs) (hz : w.heap.size ≤ w'.heap.size) (hk : ∀ b, b < w.heap.size → b ∉ F → w'.heap[b]? = w.heap[b]?) : Row w'.heap.size w' v xs := by
  obtain ⟨⟨ao, cap, rfl, hcap, hno, hc⟩, hx⟩ := h
  refine ⟨ao, cap, rfl, hcap, hno, fun h0 => ?_⟩
  obtain ⟨b, off, rfl, hN, hd⟩ := hc h0
  have := hx b off _ _ rfl h0
  exact ⟨b, off, rfl, by omega, fun i hi => (World.cell?_of_block (a := ⟨b, off + i, none⟩) (hk b hN this)).trans (hd i hi)⟩
theorem Only.cons {fp : List Nat} {w w' : World} (h : Only fp w w') (s : Nat) : Only (s :: fp) w w' := ⟨h.os, h.tape, h.output, h.size, fun k hk hn => h.block k hk fun hm => hn (.tail _ hm)⟩
theorem only_sets {fp : List Nat} {w w' : World} (h : Only fp w w') (s : Nat) (u v : Value) : Only (s :: fp) w ((w'.setCell ⟨s, 2, none⟩ u).setCell ⟨s, 3, none⟩ v) := by
  have h1 := (one_setCell w' s 2 u).trans (one_setCell _ s 3 v)
  refine ⟨h1.os.trans h.os, h1.tape.trans h.tape, h1.output.trans h.output, by rw [h1.size]; exact h.size, fun k hk hn => (h1.block k fun e => hn (e ▸ .head _)).trans (h.block k hk fun hm => hn (.tail _ hm))⟩
attribute [local go_sem ↓] exec_alloc_S exec_box_S exec_load_S exec_store_S
attribute [local go_sem] verV_cells
set_option maxHeartbeats 1000000 in
theorem Save_long (N s p : Nat) (d : DS) (fp : List Nat) (a : Int) (n : Nat) (ys xs : List Nat) (g : Nat) (v : Value) (w : World) (hd : DiskAt N w p d fp) (hsl : SlotAt w s p a n ys g) (hs : s ∉ fp) (hg : g ∉ fp) (hr : RowX (s :: fp) w v xs) (hlg : 48 < xs.length ∨ n = 18446744073709551615) :
    Calls Try.prog 21 #[.pointer (some ⟨s, 0, none⟩), v] w (SaveSays N s p d fp a n ys xs g w) := by
  have HE : Hid (SaveSays N s p d fp a n ys xs g w (.returned (.int .i64 40)) w) := by
    have e1 : saveD d a n xs = (d, 40) := by unfold saveD; rw [if_pos hlg]
    refine ⟨by rw [e1], fp, g, ?_, ?_, fun b hb => .inl hb, Only.refl _ _, hs, hg, .inl rfl⟩
    · rw [e1]; exact hd.mono (by omega)
    · rw [e1]; exact hsl
  obtain ⟨ao, cap, rfl, _⟩ := hr.1.shape
  obtain ⟨_, _, c0, c1, c2, c3, cz, _⟩ := hsl.cells
  by_cases h1 : 48 < xs.length
  · have h1' : (48 : Int) < (xs.length : Int) := by omega
    clear hd hsl hs hg hr hlg
    go_enter Try.func21, Try.ntmps21
    go_wp2_with fail
    go_ret
    exact HE.out
  · have h1' : ¬ (48 : Int) < (xs.length : Int) := by omega
    have hn := hlg.resolve_left h1
    subst hn
    clear hd hsl hs hg hr hlg
    go_enter Try.func21, Try.ntmps21
    go_wp2_with fail
    go_ret
    exact HE.out
set_option maxHeartbeats 1000000 in
theorem Save_any (N s p : Nat) (d : DS) (fp : List Nat) (a : Int) (n : Nat) (ys xs : List Nat) (g : Nat) (v : Value) (w : World) (hd : DiskAt N w p d fp) (hsl : SlotAt w s p a n ys g) (hs : s ∉ fp) (hg : g ∉ fp) (hr : RowX (s :: fp) w v xs) (hx : ∀ x ∈ xs, x < 256) (hn : n < 18446744073709551616) (hN : N + 2 < 1099511627776) :
    Calls Try.prog 21 #[.pointer (some ⟨s, 0, none⟩), v] w (SaveSays N s p d fp a n ys xs g w) := by
  by_cases hlg : 48 < xs.length ∨ n = 18446744073709551615
  · exact Save_long N s p d fp a n ys xs g v w hd hsl hs hg hr hlg
  have h48 : xs.length ≤ 48 := by omega
  have hnm : n ≠ 18446744073709551615 := fun e => hlg (.inr e)
  have HLG : Hid (¬ (48 < xs.length ∨ n = 18446744073709551615)) := hlg
  have HD : Hid (DiskAt N w p d fp) := hd
  have HSL : Hid (SlotAt w s p a n ys g) := hsl
  have HS : Hid (s ∉ fp) := hs
  have HG : Hid (g ∉ fp) := hg
  have HX : Hid (∀ x ∈ xs, x < 256) := hx
  have HR : Hid (RowX (s :: fp) w v xs) := hr
  obtain ⟨ao, cap, rfl, _⟩ := hr.1.shape
  obtain ⟨_, _, c0, c1, c2, c3, cz, _⟩ := hsl.cells
  have h1' : ¬ (48 : Int) < (xs.length : Int) := by omega
  have h2' : ((n : Int) == 18446744073709551615) = false := by rw [Bool.eq_false_iff]; intro h; have := beq_iff_eq.1 h; omega
  have hslt := hsl.lt
  clear hd hsl hs hg hr hx hlg
  go_enter Try.func21, Try.ntmps21
  go_wp2_with fail
  obtain ⟨n1, hn1, hn1'⟩ : ∃ n1 : Nat, (n : Int) + 1 = (n1 : Int) ∧ n + 1 = n1 := ⟨n + 1, rfl, rfl⟩
  have HN1 : Hid (n + 1 = n1) := hn1'
  rw [hn1]
  refine (lay_any w.heap.size n1 _ xs w HR.out.1 (Nat.le_refl _) HX.out h48).mono ?_
  rintro e w2 ⟨rfl, hb2⟩
  obtain ⟨B, hB⟩ : ∃ B, laySec n1 xs = B := ⟨_, rfl⟩
  have hBl : B.length = 64 := by rw [← hB]; exact lay_len h48
  have HB : Hid (laySec n1 xs = B) := hB
  rw [hB]
  have A2 := ArrAt.new 104 w2 (zeros 64)
  have hst := storeS_at (vs := B) A2 (by simp [zeros]) hBl
  have o3 := setA_one A2 0 B
  have A3 := A2.set 0 B (by simp [zeros, hBl])
  rw [over_all (by simp [zeros, hBl])] at A3
  obtain ⟨w3, hw3⟩ : ∃ w3, setA (w2.alloc (.cells (verC (zeros 64)) 104)) w2.heap.size 0 B = w3 := ⟨_, rfl⟩
  have B3 : Hid (Below w.heap.size w w3) := hw3 ▸ setA_below (hb2.alloc hb2.size _) A2 hb2.size _ _
  rw [hw3] at hst o3 A3
  have hs2 := hb2.size
  have hs3 : w2.heap.size < w3.heap.size := A3.lt
  have A3H : Hid (ArrAt 104 w3.drew w2.heap.size B) := A3
  have S3H : Hid (SlotAt w3.drew s p a n ys g) := HSL.out.below B3.out.drew
  have D3H : Hid (DiskAt N w3.drew p d fp) := HD.out.below B3.out.drew
  have O3H : Hid (Only fp w w3.drew) := (Only.of_below B3.out).drew
  obtain ⟨k, hk⟩ : ∃ k, n1 % 2 = k := ⟨_, rfl⟩
  have HK : Hid ((n + 1) % 2 = k) := by show _ = _; rw [hn1']; exact hk
  have hk2 : (k : Int) < 2 := by omega
  have ht1 : Int.tmod (n1 : Int) 2 = (k : Int) := by rw [Int.tmod_eq_emod_of_nonneg (by omega)]; omega
  have ht2 : (n1 : Int) % 2 = (k : Int) := by omega
  have hn1l : (n1 : Int) < 18446744073709551616 := by omega
  have hwk : IntKind.i64.wrap (k : Int) = (k : Int) := by simp [IntKind.wrap, IntKind.bits, IntKind.signed]; omega
  clear hb2 hB A2 o3 A3 hw3 c0 c1 c2 c3 cz hn1 hn1' hk
  go_wp2_with fail
  clear hst
  refine region_at (S := SS s p a) 14 rfl (by kernel_rfl) S3H.out.ss (fun hHeld => ?_)
  refine take_at (i := 0) 27 rfl rfl (by kernel_rfl) (by kernel_rfl) (by kernel_rfl) (fun _ _ _ h => h) (by rfl) (fun w hSw => by (have hSw2 := SS.facts hSw; clear hSw; go_simp; first | done | exact rfl)) (by assumption) ?_
  simp only [List.setIfInBounds_toArray, List.set_cons_zero, List.set_cons_succ]
  refine take_at (i := 1) 28 rfl rfl (by kernel_rfl) (by kernel_rfl) (by kernel_rfl) (fun _ _ _ h => h) (by rfl) (fun w hSw => by (have hSw2 := SS.facts hSw; clear hSw; go_simp; first | done | exact rfl)) (by assumption) ?_
  simp only [List.setIfInBounds_toArray, List.set_cons_zero, List.set_cons_succ]
  refine take_at (i := 2) 29 rfl rfl (by kernel_rfl) (by kernel_rfl) (by kernel_rfl) (fun _ _ _ h => h) (by rfl) (fun w hSw => by (have hSw2 := SS.facts hSw; clear hSw; go_simp; first | done | exact rfl)) (by assumption) ?_
  simp only [List.setIfInBounds_toArray, List.set_cons_zero, List.set_cons_succ]
  refine take_at (i := 3) 30 rfl rfl (by kernel_rfl) (by kernel_rfl) (by kernel_rfl) (fun _ _ _ h => h) (by rfl) (fun w hSw => by (have hSw2 := SS.facts hSw; clear hSw; go_simp; first | done | exact rfl)) (by assumption) ?_
  simp only [List.setIfInBounds_toArray, List.set_cons_zero, List.set_cons_succ]
  refine take_at (i := 4) 31 rfl rfl (by kernel_rfl) (by kernel_rfl) (by kernel_rfl) (fun _ _ _ h => h) (by rfl) (fun w hSw => by (have hSw2 := SS.facts hSw; clear hSw; go_simp; first | done | exact rfl)) (by assumption) ?_
  simp only [List.setIfInBounds_toArray, List.set_cons_zero, List.set_cons_succ]
  refine take_at (i := 5) 32 rfl rfl (by kernel_rfl) (by kernel_rfl) (by kernel_rfl) (fun _ _ _ h => h) (by rfl) (fun w hSw => by (have hSw2 := SS.facts hSw; clear hSw; go_simp; first | done | exact rfl)) (by assumption) ?_
  simp only [List.setIfInBounds_toArray, List.set_cons_zero, List.set_cons_succ]
  refine take_at (i := 6) 33 rfl rfl (by kernel_rfl) (by kernel_rfl) (by kernel_rfl) (fun _ _ _ h => h) (by rfl) (fun w hSw => by (have hSw2 := SS.facts hSw; clear hSw; go_simp; first | done | exact rfl)) (by assumption) ?_
  simp only [List.setIfInBounds_toArray, List.set_cons_zero, List.set_cons_succ]
  refine take_at (i := 7) 34 rfl rfl (by kernel_rfl) (by kernel_rfl) (by kernel_rfl) (fun _ _ _ h => h) (by rfl) (fun w hSw => by (have hSw2 := SS.facts hSw; clear hSw; go_simp; first | done | exact rfl)) (by assumption) ?_
  simp only [List.setIfInBounds_toArray, List.set_cons_zero, List.set_cons_succ]
  refine take_at (i := 8) 35 rfl rfl (by kernel_rfl) (by kernel_rfl) (by kernel_rfl) (fun _ _ _ h => h) (by rfl) (fun w hSw => by (have hSw2 := SS.facts hSw; clear hSw; go_simp; first | done | exact rfl)) (by assumption) ?_
  simp only [List.setIfInBounds_toArray, List.set_cons_zero, List.set_cons_succ]
  refine take_at (i := 9) 36 rfl rfl (by kernel_rfl) (by kernel_rfl) (by kernel_rfl) (fun _ _ _ h => h) (by rfl) (fun w hSw => by (have hSw2 := SS.facts hSw; clear hSw; go_simp; first | done | exact rfl)) (by assumption) ?_
  simp only [List.setIfInBounds_toArray, List.set_cons_zero, List.set_cons_succ]
  refine take_at (i := 10) 37 rfl rfl (by kernel_rfl) (by kernel_rfl) (by kernel_rfl) (fun _ _ _ h => h) (by rfl) (fun w hSw => by (have hSw2 := SS.facts hSw; clear hSw; go_simp; first | done | exact rfl)) (by assumption) ?_
  simp only [List.setIfInBounds_toArray, List.set_cons_zero, List.set_cons_succ]
  refine take_at (i := 11) 38 rfl rfl (by kernel_rfl) (by kernel_rfl) (by kernel_rfl) (fun _ _ _ h => h) (by rfl) (fun w hSw => by (have hSw2 := SS.facts hSw; clear hSw; go_simp; first | done | exact rfl)) (by assumption) ?_
  simp only [List.setIfInBounds_toArray, List.set_cons_zero, List.set_cons_succ]
  refine one_call (i := 12) (w0 := w3.drew) 39 25 #[.pointer (some ⟨p, 0, none⟩), .int .u64 a, .int .i64 (k : Int), .slice (some ⟨w2.heap.size, 0, none⟩) 64 64] (by kernel_rfl) rfl rfl (by rfl) (by kernel_rfl) ?_
  have hrow : RowX fp w3.drew (.slice (some ⟨w2.heap.size, 0, none⟩) 64 64) B := by
    refine ⟨?_, fun b off len cap e _ hm => ?_⟩
    · have h := A3H.out.row 0 64 64 (by omega) (by omega) (show w2.heap.size < w3.drew.heap.size from hs3)
      rwa [List.drop_zero, List.take_of_length_le (by omega)] at h
    · simp only [Value.slice.injEq, Option.some.injEq, Addr.mk.injEq] at e
      have := HD.out.lt b hm
      omega
  refine (Write_any N p d fp a (k : Int) _ B w3.drew D3H.out hrow (by omega) (by omega)).mono ?_
  rintro e w4 ⟨rfl, fp1, hd4, ho4, hf4⟩
  have S4 := S3H.out.only ho4 HS.out HG.out
  refine ⟨_, rfl, S4.ss, fun _ => ?_⟩
  simp only [List.setIfInBounds_toArray, List.set_cons_zero, List.set_cons_succ]
  obtain ⟨e1, he1⟩ : ∃ e1, wrE d a (k : Int) B = e1 := ⟨_, rfl⟩
  rw [he1]
  have HE1 : Hid (wrE d a (((n + 1) % 2 : Nat) : Int) (laySec (n + 1) xs) = e1) := by show _ = _; rw [HK.out, HN1.out, HB.out]; exact he1
  obtain ⟨d1, hd1⟩ : ∃ d1, wrD d a (k : Int) B = d1 := ⟨_, rfl⟩
  rw [hd1] at hd4
  have HD1 : Hid (wrD d a (((n + 1) % 2 : Nat) : Int) (laySec (n + 1) xs) = d1) := by show _ = _; rw [HK.out, HN1.out, HB.out]; exact hd1
  refine take_at (i := 13) 7 rfl rfl (by kernel_rfl) (by kernel_rfl) (by kernel_rfl) (fun _ _ _ h => h) (by rfl) (fun w hSw => by (clear hSw; go_simp; first | done | exact rfl)) (by assumption) ?_
  simp only [List.setIfInBounds_toArray, List.set_cons_zero, List.set_cons_succ]
  refine wpAnyH_done (by kernel_rfl) ?_ _
  have O4H : Hid (Only fp w w4) := O3H.out.trans ho4 fun x hx => .inl hx
  have D4H : Hid (DiskAt (N + 1) w4 p d1 fp1) := hd4
  have F4H : Hid (∀ b ∈ fp1, b ∈ fp ∨ w.heap.size ≤ b) := fun b hb => (hf4 b hb).imp id fun h => by have h2 : w3.heap.size ≤ b := h; omega
  have S4H : Hid (SlotAt w4 s p a n ys g) := S4
  clear hHeld hrow S4 hd4 ho4 hf4 he1 hd1 ht1 ht2 hk2
  have SF1 : Hid (s ∉ fp1) := fun hm => by rcases F4H.out s hm with h | h; exact HS.out h; omega
  have GF1 : Hid (g ∉ fp1) := fun hm => by rcases F4H.out g hm with h | h; exact HG.out h; omega
  by_cases h0 : e1 = 0
  · subst h0
    go_wp2_with fail
    have S4d : SlotAt w4.drew s p a n ys g := S4H.out
    refine region_at (S := SS s p a) 10 rfl (by kernel_rfl) S4d.ss (fun hHeld => ?_)
    refine take_at (i := 0) 43 rfl rfl (by kernel_rfl) (by kernel_rfl) (by kernel_rfl) (fun _ _ _ h => h) (by rfl) (fun w hSw => by (have hSw2 := SS.facts hSw; clear hSw; go_simp; first | done | exact rfl)) (by assumption) ?_
    simp only [List.setIfInBounds_toArray, List.set_cons_zero, List.set_cons_succ]
    refine take_at (i := 1) 44 rfl rfl (by kernel_rfl) (by kernel_rfl) (by kernel_rfl) (fun _ _ _ h => h) (by rfl) (fun w hSw => by (have hSw2 := SS.facts hSw; clear hSw; go_simp; first | done | exact rfl)) (by assumption) ?_
    simp only [List.setIfInBounds_toArray, List.set_cons_zero, List.set_cons_succ]
    refine take_at (i := 2) 45 rfl rfl (by kernel_rfl) (by kernel_rfl) (by kernel_rfl) (fun _ _ _ h => h) (by rfl) (fun w hSw => by (have hSw2 := SS.facts hSw; clear hSw; go_simp; first | done | exact rfl)) (by assumption) ?_
    simp only [List.setIfInBounds_toArray, List.set_cons_zero, List.set_cons_succ]
    refine take_at (i := 3) 46 rfl rfl (by kernel_rfl) (by kernel_rfl) (by kernel_rfl) (fun _ _ _ h => h) (by rfl) (fun w hSw => by (have hSw2 := SS.facts hSw; clear hSw; go_simp; first | done | exact rfl)) (by assumption) ?_
    simp only [List.setIfInBounds_toArray, List.set_cons_zero, List.set_cons_succ]
    refine take_at (i := 4) 47 rfl rfl (by kernel_rfl) (by kernel_rfl) (by kernel_rfl) (fun _ _ _ h => h) (by rfl) (fun w hSw => by (have hSw2 := SS.facts hSw; clear hSw; go_simp; first | done | exact rfl)) (by assumption) ?_
    simp only [List.setIfInBounds_toArray, List.set_cons_zero, List.set_cons_succ]
    refine take_at (i := 5) 48 rfl rfl (by kernel_rfl) (by kernel_rfl) (by kernel_rfl) (fun _ _ _ h => h) (by rfl) (fun w hSw => by (have hSw2 := SS.facts hSw; clear hSw; go_simp; first | done | exact rfl)) (by assumption) ?_
    simp only [List.setIfInBounds_toArray, List.set_cons_zero, List.set_cons_succ]
    refine take_at (i := 6) 49 rfl rfl (by kernel_rfl) (by kernel_rfl) (by kernel_rfl) (fun _ _ _ h => h) (by rfl) (fun w hSw => by (have hSw2 := SS.facts hSw; clear hSw; go_simp; first | done | exact rfl)) (by assumption) ?_
    simp only [List.setIfInBounds_toArray, List.set_cons_zero, List.set_cons_succ]
    refine take_at (i := 7) 50 rfl rfl (by kernel_rfl) (by kernel_rfl) (by kernel_rfl) (fun _ _ _ h => h) (by rfl) (fun w hSw => by (have hSw2 := SS.facts hSw; clear hSw; go_simp; first | done | exact rfl)) (by assumption) ?_
    simp only [List.setIfInBounds_toArray, List.set_cons_zero, List.set_cons_succ]
    refine one_call (i := 8) (w0 := w4.drew) 51 51 #[.pointer (some ⟨p, 0, none⟩), .int .u64 a] (by kernel_rfl) rfl rfl (by rfl) (by kernel_rfl) ?_
    refine (Sync_any (N + 1) p d1 fp1 a w4.drew (D4H.out.same fun _ _ => rfl) (by omega)).mono ?_
    rintro e w5 ⟨rfl, fp2, hd5, ho5, hf5⟩
    have S5 := S4d.only ho5 SF1.out GF1.out
    refine ⟨_, rfl, S5.ss, fun _ => ?_⟩
    simp only [List.setIfInBounds_toArray, List.set_cons_zero, List.set_cons_succ]
    obtain ⟨e2, he2⟩ : ∃ e2, stepE d1 = e2 := ⟨_, rfl⟩
    rw [he2]
    have HSV : Hid (saveD d a n xs = (syD d1 a, e2)) := by show _ = _; rw [saveD, if_neg HLG.out, if_pos HE1.out, HD1.out, he2]
    refine take_at (i := 9) 8 rfl rfl (by kernel_rfl) (by kernel_rfl) (by kernel_rfl) (fun _ _ _ h => h) (by rfl) (fun w hSw => by (clear hSw; go_simp; first | done | exact rfl)) (by assumption) ?_
    simp only [List.setIfInBounds_toArray, List.set_cons_zero, List.set_cons_succ]
    refine wpAnyH_done (by kernel_rfl) ?_ _
    have O5H : Hid (Only fp w w5) := O4H.out.drew.trans ho5 F4H.out
    have D5H : Hid (DiskAt (N + 2) w5 p (syD d1 a) fp2) := hd5
    have F5H : Hid (∀ b ∈ fp2, b ∈ fp ∨ w.heap.size ≤ b) := fun b hb => by
      rcases hf5 b hb with h | h
      · exact F4H.out b h
      · have h2 : w4.heap.size ≤ b := h
        have := O4H.out.size
        exact .inr (by omega)
    have S5H : Hid (SlotAt w5 s p a n ys g) := S5
    have SF2 : Hid (s ∉ fp2) := fun hm => by rcases F5H.out s hm with h | h; exact HS.out h; omega
    have GF2 : Hid (g ∉ fp2) := fun hm => by rcases F5H.out g hm with h | h; exact HG.out h; omega
    clear hHeld S4d S5 hd5 ho5 hf5 he2
    by_cases h3 : e2 = 0
    · subst h3
      have hrow5 := row_keep HR.out O5H.out.size fun b hb hn => O5H.out.block b hb fun hm => hn (.tail _ hm)
      have HR5 : Hid (Row w5.heap.size w5 (.slice ao xs.length cap) xs) := hrow5
      clear hrow5
      go_wp2_with fail
      refine (cloneB_any _ _ xs w5 HR5.out (by omega)).mono ?_
      rintro e w6 ⟨hb6, hcl⟩
      have S6 := S5H.out.below hb6
      have D6 : DiskAt (N + 2) w6 p (syD d1 a) fp2 := D5H.out.below hb6
      have O6 : Only fp w w6 := O5H.out.trans (Only.of_below (fp := []) hb6) fun x hx => by cases hx
      obtain ⟨_, _, _, _, q2, q3, qz, _⟩ := S6.cells
      have hlt6 := S6.lt
      have hs5s := O5H.out.size
      have hfp2 := D5H.out.lt
      rcases hcl with ⟨hx0, rfl⟩ | ⟨g2, cap2, rfl, hcp2, hg2, hg2l, hcs⟩
      · subst hx0
        have SN := S6.put' (n' := n1) (ys := []) (g' := s) (cap := 0) (ao := none) hlt6.1 (Nat.le_refl _) (fun _ => rfl) (fun h => by simp at h)
        have DN : DiskAt (N + 2) ((w6.setCell ⟨s, 2, none⟩ (.int .u64 (n1 : Int))).setCell ⟨s, 3, none⟩ (.slice none 0 0)) p (syD d1 a) fp2 := D6.same fun b hb => by
          have hne : b ≠ s := fun e => SF2.out (e ▸ hb)
          rw [Below.heap_setCell _ _ _ _ hne, Below.heap_setCell _ _ _ _ hne]
        have HE : Hid (SaveSays N s p d fp a n ys [] g w (.returned (.int .i64 0)) ((w6.setCell ⟨s, 2, none⟩ (.int .u64 (n1 : Int))).setCell ⟨s, 3, none⟩ (.slice none 0 0))) := by
          refine ⟨by rw [HSV.out], fp2, s, by rw [HSV.out]; exact DN, ?_, F5H.out, only_sets O6 s _ _, SF2.out, SF2.out, .inr (.inl rfl)⟩
          rw [HSV.out]; show SlotAt _ s p a (n + 1) [] s; rw [HN1.out]; exact SN
        obtain ⟨wz, hwz⟩ : ∃ wz, (w6.setCell ⟨s, 2, none⟩ (.int .u64 (n1 : Int))).setCell ⟨s, 3, none⟩ (.slice none 0 0) = wz := ⟨_, rfl⟩
        rw [hwz] at HE
        have HWZ : Hid ((w6.setCell ⟨s, 2, none⟩ (.int .u64 (n1 : Int))).setCell ⟨s, 3, none⟩ (.slice none 0 0) = wz) := hwz
        clear SN DN hwz S6 D6 O6 hb6 hfp2
        go_wp2_with fail
        rw [HWZ.out]
        go_ret
        exact HE.out
      · have SN := S6.put' (n' := n1) (ys := xs) (g' := g2) (cap := cap2) (ao := some ⟨g2, 0, none⟩) hg2l hcp2 (fun h => by cases h) (fun _ => ⟨by omega, 0, rfl, hcs⟩)
        have DN : DiskAt (N + 2) ((w6.setCell ⟨s, 2, none⟩ (.int .u64 (n1 : Int))).setCell ⟨s, 3, none⟩ (.slice (some ⟨g2, 0, none⟩) xs.length cap2)) p (syD d1 a) fp2 := D6.same fun b hb => by
          have hne : b ≠ s := fun e => SF2.out (e ▸ hb)
          rw [Below.heap_setCell _ _ _ _ hne, Below.heap_setCell _ _ _ _ hne]
        have HE : Hid (SaveSays N s p d fp a n ys xs g w (.returned (.int .i64 0)) ((w6.setCell ⟨s, 2, none⟩ (.int .u64 (n1 : Int))).setCell ⟨s, 3, none⟩ (.slice (some ⟨g2, 0, none⟩) xs.length cap2))) := by
          refine ⟨by rw [HSV.out], fp2, g2, by rw [HSV.out]; exact DN, ?_, F5H.out, only_sets O6 s _ _, SF2.out, fun hm => by have := hfp2 g2 hm; omega, .inr (.inr (by omega))⟩
          rw [HSV.out]; show SlotAt _ s p a (n + 1) xs g2; rw [HN1.out]; exact SN
        obtain ⟨wz, hwz⟩ : ∃ wz, (w6.setCell ⟨s, 2, none⟩ (.int .u64 (n1 : Int))).setCell ⟨s, 3, none⟩ (.slice (some ⟨g2, 0, none⟩) xs.length cap2) = wz := ⟨_, rfl⟩
        rw [hwz] at HE
        have HWZ : Hid ((w6.setCell ⟨s, 2, none⟩ (.int .u64 (n1 : Int))).setCell ⟨s, 3, none⟩ (.slice (some ⟨g2, 0, none⟩) xs.length cap2) = wz) := hwz
        clear SN DN hwz S6 D6 O6 hb6 hfp2 hcs
        go_wp2_with fail
        rw [HWZ.out]
        go_ret
        exact HE.out
    · have h3' : (e2 != 0) = true := by simpa using h3
      have HE : Hid (SaveSays N s p d fp a n ys xs g w (.returned (.int .i64 e2)) w5) := by
        refine ⟨by rw [HSV.out], fp2, g, by rw [HSV.out]; exact D5H.out, ?_, F5H.out, O5H.out.cons s, SF2.out, GF2.out, .inl rfl⟩
        rw [HSV.out]; show SlotAt w5 s p a (if e2 = 0 then n + 1 else n) (if e2 = 0 then xs else ys) g; rw [if_neg h3, if_neg h3]; exact S5H.out
      clear h3
      go_wp2_with fail
      go_ret
      exact HE.out
  · have h0' : (e1 != 0) = true := by simpa using h0
    have HE : Hid (SaveSays N s p d fp a n ys xs g w (.returned (.int .i64 e1)) w4) := by
      have hsv : saveD d a n xs = (d1, e1) := by rw [saveD, if_neg HLG.out, if_neg (by rw [HE1.out]; exact h0), HD1.out, HE1.out]
      refine ⟨by rw [hsv], fp1, g, by rw [hsv]; exact D4H.out.mono (by omega), ?_, F4H.out, O4H.out.cons s, SF1.out, GF1.out, .inl rfl⟩
      rw [hsv]; show SlotAt w4 s p a (if e1 = 0 then n + 1 else n) (if e1 = 0 then xs else ys) g; rw [if_neg h0, if_neg h0]; exact S4H.out
    clear h0
    go_wp2_with fail
    go_ret
    exact HE.out
end Go.Proofs.Ytpmmpdkeahmdiaa

/- What Open finds behind Saves: plain mathematics. -/
namespace Go.Proofs.Ytpmmpdkeahmdiaa
set_option maxRecDepth 100000

theorem leV_errB : ∀ (m n : Nat), n < 256 ^ m → leV (errB n m) = n
  | 0, n, h => by simp at h; subst h; rfl
  | m + 1, n, h => by
    have ih := leV_errB m (n / 256) (by rw [Nat.pow_succ] at h; omega)
    show n % 256 + 256 * leV (errB (n / 256) m) = n
    rw [ih]; omega
theorem lay_take {n : Nat} {xs : List Nat} : (laySec n xs).take 8 = errB n 8 := by
  unfold laySec front60
  rw [List.append_assoc]
  exact List.take_left' (errB_len n 8)
theorem lay_secN {n : Nat} {xs : List Nat} (hn : n < 18446744073709551616) : secN (laySec n xs) = n := by
  rw [secN, lay_take]; exact leV_errB 8 n hn
theorem lay_drop {n : Nat} {xs : List Nat} : (laySec n xs).drop 8 = (xs.length :: (xs ++ zeros (51 - xs.length))) ++ errB (sumOf (front60 n xs)) 4 := by
  unfold laySec
  conv => lhs; rw [front60]
  rw [List.append_assoc, List.drop_left' (errB_len n 8)]
  rfl
theorem lay_eight {n : Nat} {xs : List Nat} : (laySec n xs).getD 8 0 = xs.length := by
  have h := congrArg (·[0]?) (lay_drop (n := n) (xs := xs))
  simp only [List.getElem?_drop] at h
  rw [List.getD_eq_getElem?_getD, show (8 : Nat) = 8 + 0 from rfl, h]
  rfl
theorem lay_secV {n : Nat} {xs : List Nat} : secV (laySec n xs) = xs := by
  have h : (laySec n xs).drop 9 = (xs ++ zeros (51 - xs.length)) ++ errB (sumOf (front60 n xs)) 4 := by
    rw [show 9 = 8 + 1 from rfl, ← List.drop_drop, lay_drop]; rfl
  rw [secV, lay_eight, h, List.append_assoc]
  exact List.take_left' rfl
theorem lay_right {n : Nat} {xs : List Nat} (h0 : n ≠ 0) (hn : n < 18446744073709551616) (hl : xs.length ≤ 48) : RightS (laySec n xs) (n % 2) := by
  refine ⟨?_, ?_, ?_, ?_⟩
  · rw [lay_secN hn]; exact h0
  · rw [lay_secN hn]
  · rw [lay_eight]; exact hl
  · rw [lay_secN hn, lay_secV]
/-- What Open has of two sectors. -/
def openC (c0 c1 : Option (List Nat)) : Nat × List Nat := openStep (openStep (0, []) 0 c0) 1 c1
theorem openS_C (S : List Sec) (a : Int) : openS S a = openC (curOf S a 0) (curOf S a 1) := rfl
/-- A sector's number, 0 if it is not right. -/
def numC (i : Nat) (o : Option (List Nat)) : Nat := match o with | some bs => if RightS bs i then secN bs else 0 | none => 0
theorem step_num (st : Nat × List Nat) (i : Nat) (o : Option (List Nat)) : (openStep st i o).1 = max st.1 (numC i o) := by
  cases o with
  | none => simp [openStep, numC]
  | some bs =>
    unfold openStep numC
    by_cases h1 : RightS bs i
    · by_cases h2 : st.1 < secN bs
      · simp only [h1, h2, and_self, if_true]; omega
      · simp only [h1, h2, and_false, if_false, if_true]; omega
    · simp only [h1, false_and, if_false]; omega
theorem open_num (c0 c1 : Option (List Nat)) : (openC c0 c1).1 = max (numC 0 c0) (numC 1 c1) := by
  unfold openC
  rw [step_num, step_num]
  simp
theorem step_same {st : Nat × List Nat} {i : Nat} {o : Option (List Nat)} (h : numC i o ≤ st.1) : openStep st i o = st := by
  cases o with
  | none => rfl
  | some bs =>
    unfold openStep
    unfold numC at h
    by_cases h1 : RightS bs i
    · simp only [h1, if_true] at h
      simp only [show ¬ st.1 < secN bs by omega, and_false, if_false]
    · simp only [h1, false_and, if_false]
/-- A new greatest number in the sector that is not the last one's. -/
theorem open_new {c0 c1 : Option (List Nat)} {n : Nat} {xs : List Nat} (hn : n + 1 < 18446744073709551616) (hl : xs.length ≤ 48) (h0 : numC 0 c0 ≤ n) (h1 : numC 1 c1 ≤ n) :
    openC (if (n + 1) % 2 = 0 then some (laySec (n + 1) xs) else c0) (if (n + 1) % 2 = 1 then some (laySec (n + 1) xs) else c1) = (n + 1, xs) := by
  have hr := lay_right (n := n + 1) (xs := xs) (by omega) hn hl
  have hst : ∀ st : Nat × List Nat, st.1 ≤ n → openStep st ((n + 1) % 2) (some (laySec (n + 1) xs)) = (n + 1, xs) := fun st h => by
    unfold openStep
    simp only [lay_secN hn, lay_secV]
    rw [if_pos ⟨hr, by omega⟩]
  unfold openC
  rcases Nat.mod_two_eq_zero_or_one (n + 1) with h | h
  · rw [h] at hst
    rw [if_pos h, if_neg (by omega), hst (0, []) (by simp)]
    exact step_same (by show numC 1 c1 ≤ n + 1; omega)
  · rw [h] at hst
    rw [if_neg (by omega), if_pos h]
    refine hst _ ?_
    rw [step_num]
    show max 0 (numC 0 c0) ≤ n
    omega
theorem find_ne_key {S : List Sec} {a n : Int} {s : Sec} (h : findS a n S = some s) : s.area = a ∧ s.n = n := findS_at h
theorem cur_wr {S : List Sec} (hs : S.Pairwise Sec.before) (a n : Int) (v : List Nat) (a' n' : Int) : curOf (wr a n v S) a' n' = if a' = a ∧ n' = n then some v else curOf S a' n' := by
  unfold curOf
  rw [find_wr hs]
  split
  · unfold wrS
    cases findS a n S with
    | none => rfl
    | some s => simp [Sec.cur]
  · rfl
theorem cur_sy (a : Int) (S : List Sec) (a' n' : Int) : curOf (sy a S) a' n' = curOf S a' n' := by
  unfold curOf
  rw [find_sy]
  cases findS a' n' S with
  | none => rfl
  | some s =>
    simp only [Option.map_some, Option.bind_some]
    split
    · unfold syS Sec.cur
      simp only [List.getLast?_nil]
    · rfl
theorem pad_64 {v : List Nat} (h : v.length = 64) : pad v = v := by simp [pad, h]
theorem bytes_wr {S : List Sec} (h : ByteS S) {a n : Int} {v : List Nat} (hv : ∀ x ∈ v, x < 256) : ByteS (wr a n v S) := by
  intro s hs
  rcases wr_mem hs with h1 | ⟨_, _, ⟨h2, h3⟩ | ⟨t, ht, h2, h3⟩⟩
  · exact h s h1
  · refine ⟨fun u hu => (by rw [h2] at hu; cases hu), fun u hu => ?_⟩
    rw [h3] at hu
    rw [List.mem_singleton.1 hu]; exact hv
  · refine ⟨fun u hu => (by rw [h2] at hu; exact (h t ht).1 u hu), fun u hu => ?_⟩
    rw [h3] at hu
    rcases List.mem_append.1 hu with hu | hu
    · exact (h t ht).2 u hu
    · rw [List.mem_singleton.1 hu]; exact hv
theorem bytes_sy {S : List Sec} (h : ByteS S) (a : Int) : ByteS (sy a S) := by
  intro s hs
  obtain ⟨t, ht, rfl⟩ := List.mem_map.1 hs
  split
  · refine ⟨fun u hu => ?_, fun u hu => (by cases hu)⟩
    unfold syS Sec.cur at hu
    cases hl : t.fresh.getLast? with
    | none => simp [hl] at hu; exact (h t ht).1 u hu
    | some x => simp [hl] at hu; subst hu; exact (h t ht).2 _ (List.mem_of_getLast? hl)
  · exact h t ht
theorem new_bytes (room : Int) : ByteS (newD room).secs := fun s hs => by cases hs
/-- A Save on a disk that does what it must. -/
theorem save_well {d : DS} {a : Int} {n : Nat} {xs : List Nat} (hd : d.dead = false) (ha : d.armed = false) (hr : (d.secs.length : Int) < d.room) (hn : n + 1 < 18446744073709551616) (hl : xs.length ≤ 48) :
    saveD d a n xs = ({ stepD (stepD d) with secs := sy a (wr a (((n + 1) % 2 : Nat) : Int) (laySec (n + 1) xs) d.secs) }, 0) := by
  have hf : ¬ formBad (((n + 1) % 2 : Nat) : Int) (laySec (n + 1) xs) := by unfold formBad; rw [lay_len hl]; omega
  have hfull : ¬ fullBad d a (((n + 1) % 2 : Nat) : Int) := by unfold fullBad; rintro ⟨_, h⟩; omega
  have hst : ∀ d : DS, d.dead = false → d.armed = false → stepE d = 0 ∧ (stepD d).dead = false ∧ (stepD d).armed = false := fun d h1 h2 => by simp [stepE, stepD, h1, h2]
  obtain ⟨k1, k2, k3⟩ := hst d hd ha
  have e1 : wrE d a (((n + 1) % 2 : Nat) : Int) (laySec (n + 1) xs) = 0 := by
    unfold wrE; rw [hd, if_neg (by simp), if_neg hf, if_neg hfull, k1]
  have e2 : wrD d a (((n + 1) % 2 : Nat) : Int) (laySec (n + 1) xs) = { stepD d with secs := wr a (((n + 1) % 2 : Nat) : Int) (laySec (n + 1) xs) d.secs } := by
    unfold wrD; rw [hd, if_neg (by simp), if_neg hf, if_neg hfull, pad_64 (lay_len hl)]
  obtain ⟨j1, j2, j3⟩ := hst { stepD d with secs := wr a (((n + 1) % 2 : Nat) : Int) (laySec (n + 1) xs) d.secs } k2 k3
  unfold saveD
  rw [if_neg (by omega), if_pos e1, e2, j1]
  unfold syD
  rw [if_pos j1]
  congr 2
  unfold stepD
  simp [hd, ha]
end Go.Proofs.Ytpmmpdkeahmdiaa

/- What a Save leaves; the statements' alive. -/
namespace Go.Proofs.Ytpmmpdkeahmdiaa
open Go.RowKit
set_option maxRecDepth 100000

theorem openS_le (S : List Sec) (a : Int) : numC 0 (curOf S a 0) ≤ (openS S a).1 ∧ numC 1 (curOf S a 1) ≤ (openS S a).1 := by
  rw [openS_C, open_num]; omega
theorem cur_saved {S : List Sec} (hs : S.Pairwise Sec.before) (a : Int) (j : Nat) (B : List Nat) (i : Nat) : curOf (sy a (wr a (j : Int) B S)) a (i : Int) = if j = i then some B else curOf S a (i : Int) := by
  rw [cur_sy, cur_wr hs]
  by_cases h : j = i
  · rw [if_pos ⟨rfl, by omega⟩, if_pos h]
  · rw [if_neg (fun hh => h (by omega)), if_neg h]
theorem open_saved {S : List Sec} {a : Int} {n : Nat} {xs : List Nat} (hs : S.Pairwise Sec.before) (ho : (openS S a).1 = n) (hn : n + 1 < 18446744073709551616) (hl : xs.length ≤ 48) :
    openS (sy a (wr a (((n + 1) % 2 : Nat) : Int) (laySec (n + 1) xs) S)) a = (n + 1, xs) := by
  have h := openS_le S a
  rw [ho] at h
  rw [openS_C]
  have c0 := cur_saved hs a ((n + 1) % 2) (laySec (n + 1) xs) 0
  have c1 := cur_saved hs a ((n + 1) % 2) (laySec (n + 1) xs) 1
  simp only [Int.natCast_zero, Int.natCast_one] at c0 c1
  rw [c0, c1]
  exact open_new hn hl h.1 h.2
theorem open_other {S : List Sec} {a b : Int} {j : Int} {B : List Nat} (hs : S.Pairwise Sec.before) (hab : b ≠ a) : openS (sy a (wr a j B S)) b = openS S b := by
  rw [openS_C, openS_C, cur_sy, cur_sy, cur_wr hs, cur_wr hs, if_neg (fun h => hab h.1), if_neg (fun h => hab h.1)]
theorem open_nil (a : Int) : openS [] a = (0, []) := rfl
theorem sorted_at {N : Nat} {w : World} {p : Nat} {d : DS} {fp : List Nat} (h : DiskAt N w p d fp) : d.secs.Pairwise Sec.before := by obtain ⟨_, _, _, hr, _⟩ := h; exact hr.sorted
end Go.Proofs.Ytpmmpdkeahmdiaa

/- One bit of a sector that is turned: plain mathematics. -/
namespace Go.Proofs.Ytpmmpdkeahmdiaa
set_option maxRecDepth 100000

theorem errB_get (m : Nat) : ∀ (n i : Nat), i < m → (errB n m)[i]? = some (n / 256 ^ i % 256) := by
  induction m with
  | zero => intro n i h; omega
  | succ m ih =>
    intro n i h
    cases i with
    | zero => simp [errB]
    | succ i =>
      show (errB (n / 256) m)[i]? = _
      rw [ih _ _ (by omega), Nat.div_div_eq_div_mul, Nat.pow_succ, Nat.mul_comm]
theorem byte_flip (n d j : Nat) : (n ^^^ 2 ^ d) / 256 ^ j % 256 = (n / 256 ^ j % 256) ^^^ (if d / 8 = j then 2 ^ (d % 8) else 0) := by
  apply Nat.eq_of_testBit_eq
  intro i
  rw [show (256 : Nat) = 2 ^ 8 by decide, ← Nat.pow_mul, Nat.testBit_xor, Nat.testBit_mod_two_pow, Nat.testBit_mod_two_pow, Nat.testBit_div_two_pow, Nat.testBit_div_two_pow, Nat.testBit_xor, Nat.testBit_two_pow]
  by_cases hi : i < 8
  · by_cases hj : d / 8 = j
    · rw [if_pos hj, Nat.testBit_two_pow]
      have e : decide (d = i + 8 * j) = decide (d % 8 = i) := by
        apply decide_eq_decide.2
        omega
      simp [hi, e]
    · rw [if_neg hj, Nat.zero_testBit]
      have e : ¬ d = i + 8 * j := by omega
      simp [hi, e]
  · by_cases hj : d / 8 = j
    · rw [if_pos hj, Nat.testBit_two_pow]
      have e : ¬ d % 8 = i := by omega
      simp [hi, e]
    · rw [if_neg hj, Nat.zero_testBit]
      simp [hi]
theorem add_is_xor {n d : Nat} (h : n < 2 ^ d) : n + 2 ^ d = n ^^^ 2 ^ d := by
  apply Nat.eq_of_testBit_eq
  intro i
  rw [Nat.testBit_xor, Nat.testBit_two_pow, Nat.add_comm]
  by_cases hi : d = i
  · subst hi
    rw [Nat.testBit_two_pow_add_eq, Nat.testBit_lt_two_pow h]
    simp
  · rcases Nat.lt_or_ge i d with hlt | hge
    · rw [Nat.testBit_two_pow_add_gt hlt]
      simp [hi]
    · have hlt : d < i := by omega
      have h2 : 2 ^ d + n < 2 ^ i := by
        have : 2 ^ (d + 1) ≤ 2 ^ i := Nat.pow_le_pow_right (by decide) hlt
        rw [Nat.pow_succ] at this
        omega
      have h3 : n < 2 ^ i := by omega
      rw [Nat.testBit_lt_two_pow h2, Nat.testBit_lt_two_pow h3]
      simp [hi]
theorem xorL_len {xs : List Nat} {n m : Nat} (h : xs.length = m) : (xorL xs (errB n m)).length = m := by
  unfold xorL; rw [List.length_zipWith, errB_len, h, Nat.min_self]
theorem xorL_get {xs : List Nat} {n m i : Nat} (h : xs.length = m) (hi : i < m) : (xorL xs (errB n m))[i]? = some (xs.getD i 0 ^^^ (n / 256 ^ i % 256)) := by
  unfold xorL
  rw [List.getElem?_zipWith, errB_get m n i hi, List.getElem?_eq_getElem (by omega)]
  simp [List.getD_eq_getElem?_getD, List.getElem?_eq_getElem (show i < xs.length by omega)]
theorem xorL_flip {xs : List Nat} {n m d : Nat} (h : xs.length = m) (hn : n < 2 ^ d) (hd : d / 8 < m) :
    xorL xs (errB (n + 2 ^ d) m) = (xorL xs (errB n m)).set (d / 8) ((xorL xs (errB n m)).getD (d / 8) 0 ^^^ 2 ^ (d % 8)) := by
  rw [add_is_xor hn]
  apply List.ext_getElem?
  intro i
  by_cases hi : i < m
  · rw [xorL_get h hi, byte_flip, List.getElem?_set, xorL_len h]
    by_cases hj : d / 8 = i
    · subst hj
      rw [if_pos rfl, if_pos rfl, if_pos hd, List.getD_eq_getElem?_getD (l := xorL xs (errB n m)), xorL_get h hd, Option.getD_some, Nat.xor_assoc]
    · rw [if_neg hj, if_neg hj, xorL_get h hi, Nat.xor_zero]
  · rw [List.getElem?_eq_none (by rw [xorL_len h]; omega), List.getElem?_eq_none (by rw [List.length_set, xorL_len h]; omega)]
theorem xorL_zero {xs : List Nat} {m : Nat} (h : xs.length = m) : xorL xs (errB 0 m) = xs := by
  apply List.ext_getElem?
  intro i
  by_cases hi : i < m
  · rw [xorL_get h hi, Nat.zero_div, Nat.zero_mod, Nat.xor_zero, List.getElem?_eq_getElem (by omega)]
    simp [List.getD_eq_getElem?_getD, List.getElem?_eq_getElem (show i < xs.length by omega)]
  · rw [List.getElem?_eq_none (by rw [xorL_len h]; omega), List.getElem?_eq_none (by omega)]
theorem xorL_byte {xs : List Nat} {n m : Nat} (h : xs.length = m) (hx : ∀ x ∈ xs, x < 256) : ∀ x ∈ xorL xs (errB n m), x < 256 := by
  intro x hm
  obtain ⟨i, hi, rfl⟩ := List.getElem_of_mem hm
  have hi2 : i < m := by rw [xorL_len h] at hi; exact hi
  have e := xorL_get (n := n) h hi2
  rw [List.getElem?_eq_getElem hi] at e
  rw [Option.some.inj e]
  have h1 : xs.getD i 0 < 256 := byte_at hx i
  exact Nat.xor_lt_two_pow (n := 8) h1 (Nat.mod_lt _ (by decide))
/-- A sector with one bit turned. -/
def flipB (B : List Nat) (t : Nat) : List Nat := B.set (t / 8) (B.getD (t / 8) 0 ^^^ 2 ^ (t % 8))
theorem flip_len (B : List Nat) (t : Nat) : (flipB B t).length = B.length := by simp [flipB]
theorem flip_xor {B : List Nat} (h : B.length = 64) {t : Nat} (ht : t < 512) : flipB B t = xorL B (errB (2 ^ t * 1) 64) := by
  have := xorL_flip (xs := B) (n := 0) (m := 64) (d := t) h (Nat.pow_pos (by decide)) (by omega)
  rw [xorL_zero h, Nat.zero_add] at this
  rw [Nat.mul_one, this]
  rfl
theorem flip_byte {B : List Nat} (h : B.length = 64) (hb : ∀ x ∈ B, x < 256) {t : Nat} (ht : t < 512) : ∀ x ∈ flipB B t, x < 256 := by
  rw [flip_xor h ht]; exact xorL_byte h hb
theorem pow_lt8 {t m : Nat} (ht : t < 8 * m) : 2 ^ t * 1 < 256 ^ m := by
  rw [Nat.mul_one, show (256 : Nat) = 2 ^ 8 by decide, ← Nat.pow_mul]
  exact Nat.pow_lt_pow_right (by decide) ht
/-- A sector of which one bit is turned is not right. -/
theorem flip_wrong {n : Nat} {xs : List Nat} (hl : xs.length ≤ 48) (hx : ∀ x ∈ xs, x < 256) {t : Nat} (ht : t < 512) (i : Nat) : ¬ RightS (flipB (laySec n xs) t) i := by
  rintro ⟨_, _, h8, he⟩
  have h64 := lay_len (n := n) hl
  have hby := flip_byte h64 (lay_byte hl hx) ht
  obtain ⟨B', hB'⟩ : ∃ B', flipB (laySec n xs) t = B' := ⟨_, rfl⟩
  have hl' : B'.length = 64 := by rw [← hB', flip_len, h64]
  rw [hB'] at h8 he hby
  have hvl : (secV B').length ≤ 48 := by unfold secV; rw [List.length_take]; omega
  have hvx : ∀ x ∈ secV B', x < 256 := fun x hx => hby x (List.mem_of_mem_drop (List.mem_of_mem_take hx))
  refine burst_found (xs := front60 n xs) (ys := front60 (secN B') (secV B')) (v := sumOf (front60 (secN B') (secV B'))) (d := t) (b := 1) (front_byte hl hx) (front_byte hvl hvx) (by decide) (by decide) ?_ ?_ rfl
  · rw [front_len hl]; exact pow_lt8 (by omega)
  · rw [front_len hl]
    show laySec (secN B') (secV B') = xorL (laySec n xs) (errB (2 ^ t * 1) 64)
    rw [← he, ← hB', flip_xor h64 ht]
theorem numC_wrong {i : Nat} {bs : List Nat} (h : ¬ RightS bs i) : numC i (some bs) = 0 := by simp [numC, h]
theorem openC_skip0 {c0 c1 : Option (List Nat)} (h : numC 0 c0 = 0) : openC c0 c1 = openC none c1 := by
  unfold openC
  rw [step_same (st := (0, [])) (i := 0) (o := c0) (by omega)]
  rfl
theorem openC_skip1 {c0 c1 : Option (List Nat)} (h : numC 1 c1 = 0) : openC c0 c1 = openC c0 none := by
  unfold openC
  rw [step_same (i := 1) (o := c1) (by omega)]
  rfl
/-- The sector of a Save: none ahead of the first one. -/
def secAt (n : Nat) (xs : List Nat) : Option (List Nat) := if n = 0 then none else some (laySec n xs)
/-- The two sectors behind n Saves: the last one's, and that of the one ahead of it. -/
structure TwoSt (S : List Sec) (a : Int) (n : Nat) (now was : List Nat) : Prop where
  one : curOf S a ((n % 2 : Nat) : Int) = secAt n now
  two : curOf S a (((n + 1) % 2 : Nat) : Int) = secAt (n - 1) was
  e0 : n = 0 → now = []
  e1 : n ≤ 1 → was = []
  l1 : now.length ≤ 48
  l2 : was.length ≤ 48
  b1 : ∀ x ∈ now, x < 256
  b2 : ∀ x ∈ was, x < 256
  hn : n < 18446744073709551616
theorem numC_at {n : Nat} {xs : List Nat} (i : Nat) (hn : n < 18446744073709551616) : numC i (secAt n xs) ≤ n := by
  unfold secAt
  split
  · simp [numC]
  · unfold numC
    simp only
    split
    · rw [lay_secN hn]; exact Nat.le_refl _
    · omega
/-- One sector alone. -/
theorem open_one {n : Nat} {xs : List Nat} (hn : n < 18446744073709551616) (hl : xs.length ≤ 48) (h0 : n = 0 → xs = []) (c0 c1 : Option (List Nat)) (hc : (n % 2 = 0 ∧ c0 = secAt n xs ∧ (n ≠ 0 → numC 1 c1 < n) ∧ (n = 0 → numC 1 c1 = 0)) ∨ (n % 2 = 1 ∧ c1 = secAt n xs ∧ numC 0 c0 < n)) : openC c0 c1 = (n, xs) := by
  rcases hc with ⟨h2, rfl, h3, h4⟩ | ⟨h2, rfl, h3⟩
  · by_cases hz : n = 0
    · subst hz
      rw [h0 rfl, openC_skip1 (h4 rfl)]
      rfl
    · obtain ⟨m, rfl⟩ : ∃ m, n = m + 1 := ⟨n - 1, by omega⟩
      have := open_new (c0 := none) (c1 := c1) (n := m) (xs := xs) hn hl (by simp [numC]) (by have := h3 hz; omega)
      rw [if_pos h2, if_neg (by omega)] at this
      rw [secAt, if_neg hz]
      exact this
  · obtain ⟨m, rfl⟩ : ∃ m, n = m + 1 := ⟨n - 1, by omega⟩
    have := open_new (c0 := c0) (c1 := none) (n := m) (xs := xs) hn hl (by omega) (by simp [numC])
    rw [if_neg (by omega), if_pos h2] at this
    rw [secAt, if_neg (by omega)]
    exact this
theorem TwoSt.open {S : List Sec} {a : Int} {n : Nat} {now was : List Nat} (h : TwoSt S a n now was) : openS S a = (n, now) := by
  rw [openS_C]
  have hlt := numC_at (n := n - 1) (xs := was) 1 (by have := h.hn; omega)
  have hlt0 := numC_at (n := n - 1) (xs := was) 0 (by have := h.hn; omega)
  have e1 := h.one
  have e2 := h.two
  refine open_one h.hn h.l1 h.e0 _ _ ?_
  rcases Nat.mod_two_eq_zero_or_one n with hm | hm
  · rw [show (n + 1) % 2 = 1 by omega] at e2
    rw [hm] at e1
    refine .inl ⟨hm, by simpa using e1, fun hz => ?_, fun hz => ?_⟩
    · have : curOf S a 1 = secAt (n - 1) was := by simpa using e2
      rw [this]; omega
    · have : curOf S a 1 = secAt (n - 1) was := by simpa using e2
      rw [this]; omega
  · rw [show (n + 1) % 2 = 0 by omega] at e2
    rw [hm] at e1
    refine .inr ⟨hm, by simpa using e1, ?_⟩
    have : curOf S a 0 = secAt (n - 1) was := by simpa using e2
    rw [this]; omega
theorem TwoSt.save {S : List Sec} {a : Int} {n : Nat} {now was xs : List Nat} (h : TwoSt S a n now was) (hs : S.Pairwise Sec.before) (hn : n + 1 < 18446744073709551616) (hl : xs.length ≤ 48) (hx : ∀ x ∈ xs, x < 256) : TwoSt (sy a (wr a (((n + 1) % 2 : Nat) : Int) (laySec (n + 1) xs) S)) a (n + 1) xs now := by
  refine ⟨?_, ?_, fun h0 => by omega, fun h1 => h.e0 (by omega), hl, h.l1, hx, h.b1, hn⟩
  · rw [cur_saved hs, if_pos rfl, secAt, if_neg (by omega)]
  · rw [cur_saved hs, if_neg (by omega), show (n + 1 + 1) % 2 = n % 2 by omega, Nat.add_sub_cancel]
    exact h.one
/-- A bit of one of both that is turned. -/
theorem TwoSt.flip {S : List Sec} {a : Int} {n : Nat} {now was B : List Nat} (h : TwoSt S a n now was) (hs : S.Pairwise Sec.before) {j : Nat} (hj : j < 2) (hc : curOf S a (j : Int) = some B) {t : Nat} (ht : t < 512) : (openS (wr a (j : Int) (flipB B t) S) a).2 = now ∨ (openS (wr a (j : Int) (flipB B t) S) a).2 = was := by
  have hcur : ∀ i : Nat, curOf (wr a (j : Int) (flipB B t) S) a (i : Int) = if j = i then some (flipB B t) else curOf S a (i : Int) := fun i => by
    rw [cur_wr hs]
    by_cases he : j = i
    · rw [if_pos ⟨rfl, by omega⟩, if_pos he]
    · rw [if_neg (fun hh => he (by omega)), if_neg he]
  have c0 := hcur 0
  have c1 := hcur 1
  simp only [Int.natCast_zero, Int.natCast_one] at c0 c1
  have hn := h.hn
  -- which of both it is
  have hwr : ∀ (m : Nat) (ys : List Nat), ys.length ≤ 48 → (∀ x ∈ ys, x < 256) → some B = secAt m ys → ∀ i, numC i (some (flipB B t)) = 0 := fun m ys hl hb he i => by
    unfold secAt at he
    split at he
    · cases he
    · cases he
      exact numC_wrong (flip_wrong hl hb ht i)
  by_cases hjn : j = n % 2
  · -- the last one's
    have e1 : some B = secAt n now := by rw [← hc, hjn]; exact h.one
    have hz := hwr n now h.l1 h.b1 e1
    right
    have ho : openS (wr a (j : Int) (flipB B t) S) a = (n - 1, was) := by
      rw [openS_C, c0, c1]
      have e2 := h.two
      refine open_one (by omega) h.l2 (fun h0 => h.e1 (by omega)) _ _ ?_
      have hn0 : n ≠ 0 := fun e => by subst e; simp [secAt] at e1
      rcases Nat.mod_two_eq_zero_or_one n with hm | hm
      · have hj0 : j = 0 := by omega
        rw [show (n + 1) % 2 = 1 by omega] at e2
        subst hj0
        refine .inr ⟨by omega, ?_, ?_⟩
        · rw [if_neg (by omega)]; simpa using e2
        · rw [if_pos rfl, hz 0]; omega
      · have hj1 : j = 1 := by omega
        rw [show (n + 1) % 2 = 0 by omega] at e2
        subst hj1
        refine .inl ⟨by omega, ?_, fun h0 => ?_, fun h0 => ?_⟩
        · rw [if_neg (by omega)]; simpa using e2
        · rw [if_pos rfl, hz 1]; omega
        · rw [if_pos rfl, hz 1]
    rw [ho]
  · left
    have hj2 : j = (n + 1) % 2 := by omega
    have e1 : some B = secAt (n - 1) was := by rw [← hc, hj2]; exact h.two
    have hz := hwr (n - 1) was h.l2 h.b2 e1
    have e2 := h.one
    have ho : openS (wr a (j : Int) (flipB B t) S) a = (n, now) := by
      rw [openS_C, c0, c1]
      refine open_one hn h.l1 h.e0 _ _ ?_
      rcases Nat.mod_two_eq_zero_or_one n with hm | hm
      · have hj1 : j = 1 := by omega
        rw [hm] at e2
        subst hj1
        refine .inl ⟨hm, ?_, fun h0 => ?_, fun h0 => ?_⟩
        · rw [if_neg (by omega)]; simpa using e2
        · rw [if_pos rfl, hz 1]; omega
        · rw [if_pos rfl, hz 1]
      · have hj0 : j = 0 := by omega
        rw [hm] at e2
        subst hj0
        refine .inr ⟨hm, ?_, ?_⟩
        · rw [if_neg (by omega)]; simpa using e2
        · rw [if_pos rfl, hz 0]; omega
    rw [ho]
theorem TwoSt.new (a : Int) : TwoSt [] a 0 [] [] := ⟨rfl, rfl, fun _ => rfl, fun _ => rfl, by simp, by simp, fun x hx => (by cases hx), fun x hx => (by cases hx), by omega⟩
end Go.Proofs.Ytpmmpdkeahmdiaa
