/- The library's sort at uint64: the pivot. -/
import Derived.Test.YtpmmpdkeahmdiaaSrtU0
import Derived.Handy
namespace Go.Proofs.Ytpmmpdkeahmdiaa
open Go.RowKit Go.Sort
set_option maxRecDepth 100000
namespace SrtU

theorem At.store {blk off n : Nat} {w0 w : World} {d : Array Int} (h : At blk off w0 w n d) (hb : blk < w0.heap.size) {sb : Nat} (hs : w0.heap.size ≤ sb) (c : Nat) (v : Value) : At blk off w0 (w.setCell ⟨sb, c, none⟩ v) n d := by
  have hne : blk ≠ sb := by omega
  refine ⟨holds_same h.holds (Below.heap_setCell _ _ _ _ hne), h.size, ⟨h.step.os, h.step.tape, h.step.output, by simpa [World.setCell] using h.step.size, fun k hk hkb => ?_, fun c' e fr hc => ?_⟩⟩
  · have hk2 : k ≠ sb := by omega
    exact (Below.heap_setCell _ _ _ _ hk2).trans (h.step.block k hk hkb)
  · obtain ⟨c2, h1, h2⟩ := h.step.own c' e fr hc
    exact ⟨c2, (Below.heap_setCell _ _ _ _ hne).trans h1, h2⟩
theorem At.alloc {blk off n : Nat} {w0 w : World} {d : Array Int} (h : At blk off w0 w n d) (hb : blk < w0.heap.size) (o : Obj) : At blk off w0 (w.alloc o) n d := by
  have hl : blk < w.heap.size := Nat.lt_of_lt_of_le hb h.step.size
  exact ⟨holds_same h.holds (Below.heap_alloc _ _ _ hl), h.size, h.step.alloc hl o⟩
/-- The row, and beside it the count of swaps in a block of its own. -/
structure Pv (blk off : Nat) (w0 w : World) (n : Nat) (d : Array Int) (sb : Nat) : Prop where
  at_ : At blk off w0 w n d
  low : blk < w0.heap.size
  own : w0.heap.size ≤ sb
  cell : ∃ v : Int, w.cell? ⟨sb, 0, none⟩ = some (.int .i64 v)
  free : w.frozen? ⟨sb, 0, none⟩ = false
theorem Pv.drewN {blk off n sb : Nat} {w0 w : World} {d : Array Int} (h : Pv blk off w0 w n d sb) (m : Nat) : Pv blk off w0 (w.drewN m) n d sb := ⟨h.at_.drewN m, h.low, h.own, h.cell, h.free⟩
theorem Pv.put {blk off n sb : Nat} {w0 w : World} {d : Array Int} (h : Pv blk off w0 w n d sb) (x : Int) : Pv blk off w0 (w.setCell ⟨sb, 0, none⟩ (.int .i64 x)) n d sb := by
  obtain ⟨v, hv⟩ := h.cell
  exact ⟨h.at_.store h.low h.own 0 _, h.low, h.own, ⟨x, by go_simp⟩, by have := h.free; go_simp⟩

set_option maxHeartbeats 4000000 in
theorem order2_any (blk off cap lo hi a b n sb : Nat) (d : Array Int) (w0 w : World) (hP : Pv blk off w0 w n d sb) (hn : hi ≤ n) (ha : lo ≤ a) (ha2 : a < hi) (hb : lo ≤ b) (hb2 : b < hi) :
    Calls Try.prog 125 #[.slice (some ⟨blk, off, none⟩) n cap, .int .i64 a, .int .i64 b, .pointer (some ⟨sb, 0, none⟩)] w fun e w' =>
      ∃ x y : Nat, e = .returned (.tuple #[.int .i64 x, .int .i64 y]) ∧ lo ≤ x ∧ x < hi ∧ lo ≤ y ∧ y < hi ∧ Pv blk off w0 w' n d sb := by
  obtain ⟨G, hG, hcw, hfw⟩ := hP.at_.fam
  obtain ⟨v, hv⟩ := hP.cell
  have hvf := hP.free
  have HP : Hid (Pv blk off w0 w n d sb) := hP
  have han : a < n := by omega
  have hbn : b < n := by omega
  clear hP hG
  go_enter Try.func125, Try.ntmps125
  go_wp2
  go_quiet (first | (go_at_call 101; refine Calls.quiet_of_same (Less_any _ _ _)))
  go_wp2
  · go_ret2
    exact ⟨b, a, rfl, hb, hb2, ha, ha2, (HP.out.drewN _).put _⟩
  · go_ret2
    exact ⟨a, b, rfl, ha, ha2, hb, hb2, HP.out.drewN _⟩

set_option maxHeartbeats 4000000 in
theorem median_any (blk off cap lo hi a b c n sb : Nat) (d : Array Int) (w0 w : World) (hP : Pv blk off w0 w n d sb) (hn : hi ≤ n) (ha : lo ≤ a) (ha2 : a < hi) (hb : lo ≤ b) (hb2 : b < hi) (hc : lo ≤ c) (hc2 : c < hi) :
    Calls Try.prog 119 #[.slice (some ⟨blk, off, none⟩) n cap, .int .i64 a, .int .i64 b, .int .i64 c, .pointer (some ⟨sb, 0, none⟩)] w fun e w' =>
      ∃ x : Nat, e = .returned (.int .i64 x) ∧ lo ≤ x ∧ x < hi ∧ Pv blk off w0 w' n d sb := by
  go_enter Try.func119, Try.ntmps119
  go_wp2_with (go_at_call 125; refine (order2_any blk off cap lo hi _ _ n sb d w0 _ (by assumption) hn (by assumption) (by assumption) (by assumption) (by assumption)).mono ?_; rintro e w' ⟨x, y, rfl, h1, h2, h3, h4, P⟩)
  go_ret
  refine ⟨_, by simp; rfl, by assumption, by assumption, by assumption⟩
set_option maxHeartbeats 4000000 in
theorem medianAdjacent_any (blk off cap lo hi a n sb : Nat) (d : Array Int) (w0 w : World) (hP : Pv blk off w0 w n d sb) (hn : hi ≤ n) (ha : lo + 1 ≤ a) (hb : a + 1 < hi) (hsz : n < 2305843009213693952) :
    Calls Try.prog 118 #[.slice (some ⟨blk, off, none⟩) n cap, .int .i64 a, .pointer (some ⟨sb, 0, none⟩)] w fun e w' =>
      ∃ x : Nat, e = .returned (.int .i64 x) ∧ lo ≤ x ∧ x < hi ∧ Pv blk off w0 w' n d sb := by
  obtain ⟨i, hi'⟩ : ∃ i, a - 1 = i := ⟨_, rfl⟩
  obtain ⟨j, hj'⟩ : ∃ j, a + 1 = j := ⟨_, rfl⟩
  have hii : (a : Int) - 1 = (i : Int) := by omega
  have hji : (a : Int) + 1 = (j : Int) := by omega
  have h1 : lo ≤ i := by omega
  have h2 : i < hi := by omega
  have h3 : lo ≤ j := by omega
  have h4 : j < hi := by omega
  have h5 : lo ≤ a := by omega
  have h6 : a < hi := by omega
  clear hi' hj'
  go_enter Try.func118, Try.ntmps118
  go_wp2_with (go_at_call 119; refine (median_any blk off cap lo hi _ _ _ n sb d w0 _ (by assumption) hn (by assumption) (by assumption) (by assumption) (by assumption) (by assumption) (by assumption)).mono ?_; rintro e w' ⟨x, rfl, g1, g2, P⟩)
  go_ret
  exact ⟨x, by simp, g1, g2, P⟩

set_option maxHeartbeats 8000000 in
theorem choosePivot_any (blk off cap a b n : Nat) (d : Array Int) (w0 w : World) (hA : At blk off w0 w n d) (hlow : blk < w0.heap.size) (hab : a + 12 < b) (hb : b ≤ n) (hsz : n < 2305843009213693952) :
    Calls Try.prog 98 #[.slice (some ⟨blk, off, none⟩) n cap, .int .i64 a, .int .i64 b] w fun e w' =>
      ∃ (p : Nat) (h : Int), e = .returned (.tuple #[.int .i64 p, .int .i64 h]) ∧ a ≤ p ∧ p < b ∧ At blk off w0 w' n d := by
  have HP : Hid (Pv blk off w0 (w.alloc (.cells #[.int .i64 0] 3)) n d w.heap.size) :=
    ⟨hA.alloc hlow _, hlow, hA.step.size, ⟨0, by go_simp⟩, by go_simp⟩
  obtain ⟨l, hl⟩ : ∃ l, b - a = l := ⟨_, rfl⟩
  obtain ⟨q, hq⟩ : ∃ q, l / 4 = q := ⟨_, rfl⟩
  obtain ⟨i, hi'⟩ : ∃ i, a + q = i := ⟨_, rfl⟩
  obtain ⟨j, hj'⟩ : ∃ j, a + q * 2 = j := ⟨_, rfl⟩
  obtain ⟨k, hk'⟩ : ∃ k, a + q * 3 = k := ⟨_, rfl⟩
  have hli : (b : Int) - (a : Int) = (l : Int) := by omega
  have hqi : (l : Int).tdiv 4 = (q : Int) := by rw [Int.tdiv_eq_ediv_of_nonneg (by omega)]; omega
  have hii : (a : Int) + (q : Int) = (i : Int) := by omega
  have hji : (a : Int) + (q : Int) * 2 = (j : Int) := by omega
  have hki : (a : Int) + (q : Int) * 3 = (k : Int) := by omega
  have hl8 : (8 : Int) ≤ (l : Int) := by omega
  have i1 : a + 1 ≤ i := by omega
  have i2 : i + 1 < b := by omega
  have j1 : a + 1 ≤ j := by omega
  have j2 : j + 1 < b := by omega
  have k1 : a + 1 ≤ k := by omega
  have k2 : k + 1 < b := by omega
  have i3 : a ≤ i := by omega
  have i4 : i < b := by omega
  have j3 : a ≤ j := by omega
  have j4 : j < b := by omega
  have k3 : a ≤ k := by omega
  have k4 : k < b := by omega
  clear hl hq hi' hj' hk' hA
  have hP := HP.out
  go_enter Try.func98, Try.ntmps98
  go_wp2_with (first | (go_at_call 118; refine (medianAdjacent_any blk off cap a b _ n w.heap.size d w0 _ (by assumption) hb (by assumption) (by assumption) hsz).mono ?_; rintro e w' ⟨x, rfl, g1, g2, P⟩) | (go_at_call 119; refine (median_any blk off cap a b _ _ _ n w.heap.size d w0 _ (by assumption) hb (by assumption) (by assumption) (by assumption) (by assumption) (by assumption) (by assumption)).mono ?_; rintro e w' ⟨x, rfl, g1, g2, P⟩; obtain ⟨v, hv⟩ := P.cell))
  all_goals go_ret2
  all_goals exact ⟨x, _, rfl, g1, g2, P.at_⟩
end SrtU
end Go.Proofs.Ytpmmpdkeahmdiaa
