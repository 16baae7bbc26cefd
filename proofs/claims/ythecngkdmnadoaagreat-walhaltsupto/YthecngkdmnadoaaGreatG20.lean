/- Texts that were written apart, joined. -/
import Derived.Test.YthecngkdmnadoaaGreatG16
import Derived.Handy
import Derived.Shelf.Lay
import Derived.Shelf.Small.Bits
import Derived.Ground.Names2Prog
import Derived.Sort.LotD1
import Derived.Test.YthecngkdmnadoaaGreatG03
import Derived.Sort.WalkA14
import Derived.Sort.LotD5
import Derived.Sort.Walk7a
import Derived.Laws.Bits64b
/- The library's sort at uint64: the pivot. -/
namespace Go.Proofs.YthecngkdmnadoaaGreat
open Go.RowKit Go.Sort
set_option maxRecDepth 100000
namespace SrtU

theorem At.store {blk off n : Nat} {w0 w : World} {d : Array Int} (h : At blk off w0 w n d) (hb : blk < w0.heap.size) {sb : Nat} (hs : w0.heap.size ≤ sb) (c : Nat) (v : Value) : At blk off w0 (w.setCell ⟨sb, c, none⟩ v) n d := by
  have hne : blk ≠ sb := by omega
  refine ⟨holds_same h.holds (Below.heap_setCell _ _ _ _ hne), h.size, ⟨h.step.os, h.step.tape, h.step.output, by simpa [World.setCell] using h.step.size, fun k hk hkb => ?_, fun c' e fr hc => ?_⟩⟩
  · have hk2 : k ≠ sb := by omega
    exact (Below.heap_setCell _ _ _ _ hk2).trans (h.step.block k hk hkb)
  · obtain ⟨c2, h1, h2⟩ := h.step.own c' e fr hc
    exact ⟨c2, (Below.heap_setCell _ _ _ _ hne).trans h1, h2⟩
theorem At.alloc {blk off n : Nat} {w0 w : World} {d : Array Int} (h : At blk off w0 w n d) (hb : blk < w0.heap.size) (o : Obj) : At blk off w0 (w.alloc o) n d := by
  have hl : blk < w.heap.size := Nat.lt_of_lt_of_le hb h.step.size
  exact ⟨holds_same h.holds (Below.heap_alloc _ _ _ hl), h.size, h.step.alloc hl o⟩
/-- The row, and beside it the count of swaps in a block of its own. -/
structure Pv (blk off : Nat) (w0 w : World) (n : Nat) (d : Array Int) (sb : Nat) : Prop where
  at_ : At blk off w0 w n d
  low : blk < w0.heap.size
  own : w0.heap.size ≤ sb
  cell : ∃ v : Int, w.cell? ⟨sb, 0, none⟩ = some (.int .i64 v)
  free : w.frozen? ⟨sb, 0, none⟩ = false
theorem Pv.drewN {blk off n sb : Nat} {w0 w : World} {d : Array Int} (h : Pv blk off w0 w n d sb) (m : Nat) : Pv blk off w0 (w.drewN m) n d sb := ⟨h.at_.drewN m, h.low, h.own, h.cell, h.free⟩
theorem Pv.put {blk off n sb : Nat} {w0 w : World} {d : Array Int} (h : Pv blk off w0 w n d sb) (x : Int) : Pv blk off w0 (w.setCell ⟨sb, 0, none⟩ (.int .i64 x)) n d sb := by
  obtain ⟨v, hv⟩ := h.cell
  exact ⟨h.at_.store h.low h.own 0 _, h.low, h.own, ⟨x, by go_simp⟩, by have := h.free; go_simp⟩

set_option maxHeartbeats 4000000 in
theorem order2_any (blk off cap lo hi a b n sb : Nat) (d : Array Int) (w0 w : World) (hP : Pv blk off w0 w n d sb) (hn : hi ≤ n) (ha : lo ≤ a) (ha2 : a < hi) (hb : lo ≤ b) (hb2 : b < hi) :
    Calls Tryz.prog 140 #[.slice (some ⟨blk, off, none⟩) n cap, .int .i64 a, .int .i64 b, .pointer (some ⟨sb, 0, none⟩)] w fun e w' =>
      ∃ x y : Nat, e = .returned (.tuple #[.int .i64 x, .int .i64 y]) ∧ lo ≤ x ∧ x < hi ∧ lo ≤ y ∧ y < hi ∧ Pv blk off w0 w' n d sb := by
  obtain ⟨G, hG, hcw, hfw⟩ := hP.at_.fam
  obtain ⟨v, hv⟩ := hP.cell
  have hvf := hP.free
  have HP : Hid (Pv blk off w0 w n d sb) := hP
  have han : a < n := by omega
  have hbn : b < n := by omega
  clear hP hG
  go_enter Tryz.func140, Tryz.ntmps140
  go_wp2
  go_quiet (first | (go_at_call 110; refine Calls.quiet_of_same (Less_any _ _ _)))
  go_wp2
  · go_ret2
    exact ⟨b, a, rfl, hb, hb2, ha, ha2, (HP.out.drewN _).put _⟩
  · go_ret2
    exact ⟨a, b, rfl, ha, ha2, hb, hb2, HP.out.drewN _⟩

set_option maxHeartbeats 4000000 in
theorem median_any (blk off cap lo hi a b c n sb : Nat) (d : Array Int) (w0 w : World) (hP : Pv blk off w0 w n d sb) (hn : hi ≤ n) (ha : lo ≤ a) (ha2 : a < hi) (hb : lo ≤ b) (hb2 : b < hi) (hc : lo ≤ c) (hc2 : c < hi) :
    Calls Tryz.prog 128 #[.slice (some ⟨blk, off, none⟩) n cap, .int .i64 a, .int .i64 b, .int .i64 c, .pointer (some ⟨sb, 0, none⟩)] w fun e w' =>
      ∃ x : Nat, e = .returned (.int .i64 x) ∧ lo ≤ x ∧ x < hi ∧ Pv blk off w0 w' n d sb := by
  go_enter Tryz.func128, Tryz.ntmps128
  go_wp2_with (go_at_call 140; refine (order2_any blk off cap lo hi _ _ n sb d w0 _ (by assumption) hn (by assumption) (by assumption) (by assumption) (by assumption)).mono ?_; rintro e w' ⟨x, y, rfl, h1, h2, h3, h4, P⟩)
  go_ret
  refine ⟨_, by simp; rfl, by assumption, by assumption, by assumption⟩
set_option maxHeartbeats 4000000 in
theorem medianAdjacent_any (blk off cap lo hi a n sb : Nat) (d : Array Int) (w0 w : World) (hP : Pv blk off w0 w n d sb) (hn : hi ≤ n) (ha : lo + 1 ≤ a) (hb : a + 1 < hi) (hsz : n < 2305843009213693952) :
    Calls Tryz.prog 127 #[.slice (some ⟨blk, off, none⟩) n cap, .int .i64 a, .pointer (some ⟨sb, 0, none⟩)] w fun e w' =>
      ∃ x : Nat, e = .returned (.int .i64 x) ∧ lo ≤ x ∧ x < hi ∧ Pv blk off w0 w' n d sb := by
  obtain ⟨i, hi'⟩ : ∃ i, a - 1 = i := ⟨_, rfl⟩
  obtain ⟨j, hj'⟩ : ∃ j, a + 1 = j := ⟨_, rfl⟩
  have hii : (a : Int) - 1 = (i : Int) := by omega
  have hji : (a : Int) + 1 = (j : Int) := by omega
  have h1 : lo ≤ i := by omega
  have h2 : i < hi := by omega
  have h3 : lo ≤ j := by omega
  have h4 : j < hi := by omega
  have h5 : lo ≤ a := by omega
  have h6 : a < hi := by omega
  clear hi' hj'
  go_enter Tryz.func127, Tryz.ntmps127
  go_wp2_with (go_at_call 128; refine (median_any blk off cap lo hi _ _ _ n sb d w0 _ (by assumption) hn (by assumption) (by assumption) (by assumption) (by assumption) (by assumption) (by assumption)).mono ?_; rintro e w' ⟨x, rfl, g1, g2, P⟩)
  go_ret
  exact ⟨x, by simp, g1, g2, P⟩

set_option maxHeartbeats 8000000 in
theorem choosePivot_any (blk off cap a b n : Nat) (d : Array Int) (w0 w : World) (hA : At blk off w0 w n d) (hlow : blk < w0.heap.size) (hab : a + 12 < b) (hb : b ≤ n) (hsz : n < 2305843009213693952) :
    Calls Tryz.prog 107 #[.slice (some ⟨blk, off, none⟩) n cap, .int .i64 a, .int .i64 b] w fun e w' =>
      ∃ (p : Nat) (h : Int), e = .returned (.tuple #[.int .i64 p, .int .i64 h]) ∧ a ≤ p ∧ p < b ∧ At blk off w0 w' n d := by
  have HP : Hid (Pv blk off w0 (w.alloc (.cells #[.int .i64 0] 3)) n d w.heap.size) :=
    ⟨hA.alloc hlow _, hlow, hA.step.size, ⟨0, by go_simp⟩, by go_simp⟩
  obtain ⟨l, hl⟩ : ∃ l, b - a = l := ⟨_, rfl⟩
  obtain ⟨q, hq⟩ : ∃ q, l / 4 = q := ⟨_, rfl⟩
  obtain ⟨i, hi'⟩ : ∃ i, a + q = i := ⟨_, rfl⟩
  obtain ⟨j, hj'⟩ : ∃ j, a + q * 2 = j := ⟨_, rfl⟩
  obtain ⟨k, hk'⟩ : ∃ k, a + q * 3 = k := ⟨_, rfl⟩
  have hli : (b : Int) - (a : Int) = (l : Int) := by omega
  have hqi : (l : Int).tdiv 4 = (q : Int) := by rw [Int.tdiv_eq_ediv_of_nonneg (by omega)]; omega
  have hii : (a : Int) + (q : Int) = (i : Int) := by omega
  have hji : (a : Int) + (q : Int) * 2 = (j : Int) := by omega
  have hki : (a : Int) + (q : Int) * 3 = (k : Int) := by omega
  have hl8 : (8 : Int) ≤ (l : Int) := by omega
  have i1 : a + 1 ≤ i := by omega
  have i2 : i + 1 < b := by omega
  have j1 : a + 1 ≤ j := by omega
  have j2 : j + 1 < b := by omega
  have k1 : a + 1 ≤ k := by omega
  have k2 : k + 1 < b := by omega
  have i3 : a ≤ i := by omega
  have i4 : i < b := by omega
  have j3 : a ≤ j := by omega
  have j4 : j < b := by omega
  have k3 : a ≤ k := by omega
  have k4 : k < b := by omega
  clear hl hq hi' hj' hk' hA
  have hP := HP.out
  go_enter Tryz.func107, Tryz.ntmps107
  go_wp2_with (first | (go_at_call 127; refine (medianAdjacent_any blk off cap a b _ n w.heap.size d w0 _ (by assumption) hb (by assumption) (by assumption) hsz).mono ?_; rintro e w' ⟨x, rfl, g1, g2, P⟩) | (go_at_call 128; refine (median_any blk off cap a b _ _ _ n w.heap.size d w0 _ (by assumption) hb (by assumption) (by assumption) (by assumption) (by assumption) (by assumption) (by assumption)).mono ?_; rintro e w' ⟨x, rfl, g1, g2, P⟩; obtain ⟨v, hv⟩ := P.cell))
  all_goals go_ret2
  all_goals exact ⟨x, _, rfl, g1, g2, P.at_⟩
end SrtU
end Go.Proofs.YthecngkdmnadoaaGreat

/- bits.Len, off the shelf. -/
namespace Go.Proofs.YthecngkdmnadoaaGreat
open Go.RowKit Go.Shelf
set_option maxRecDepth 100000
shelf_lay Lays.n125 Nm 125 at Tryz as lays125
theorem bits_Len (x : Int) (w : World) (h0 : 0 ≤ x) (h1 : x ≤ 18446744073709551615) :
    Calls Tryz.prog 82 #[.int .u64 x] w fun e w' => e = .returned (.int .i64 (Lib.bitLen x.toNat)) ∧ w' = w := Any.bits_Len lays125 x w h0 h1
end Go.Proofs.YthecngkdmnadoaaGreat

/- The library's sort at uint64: breaking patterns. -/
namespace Go.Proofs.YthecngkdmnadoaaGreat
open Go.RowKit Go.Sort
set_option maxRecDepth 100000
namespace SrtU

/-- The row, and beside it the random number in a block of its own. -/
structure Pr (blk off : Nat) (w0 w : World) (n : Nat) (d : Array Int) (sb : Nat) : Prop where
  at_ : At blk off w0 w n d
  low : blk < w0.heap.size
  own : w0.heap.size ≤ sb
  cell : ∃ v : Nat, v < 18446744073709551616 ∧ w.cell? ⟨sb, 0, none⟩ = some (.int .u64 v)
  free : w.frozen? ⟨sb, 0, none⟩ = false
theorem Pr.drewN {blk off n sb : Nat} {w0 w : World} {d : Array Int} (h : Pr blk off w0 w n d sb) (m : Nat) : Pr blk off w0 (w.drewN m) n d sb := ⟨h.at_.drewN m, h.low, h.own, h.cell, h.free⟩
theorem Pr.put {blk off n sb : Nat} {w0 w : World} {d : Array Int} (h : Pr blk off w0 w n d sb) {x : Nat} (hx : x < 18446744073709551616) : Pr blk off w0 (w.setCell ⟨sb, 0, none⟩ (.int .u64 x)) n d sb := by
  obtain ⟨v, _, hv⟩ := h.cell
  exact ⟨h.at_.store h.low h.own 0 _, h.low, h.own, ⟨x, hx, by go_simp⟩, by have := h.free; go_simp⟩
theorem xorU (x y : Nat) (hx : x < 18446744073709551616) (hy : y < 18446744073709551616) : ∃ A : Nat, A < 18446744073709551616 ∧ bits .xor .u64 (x : Int) (y : Int) = (A : Int) :=
  ⟨x ^^^ y, Nat.xor_lt_two_pow (n := 64) (by omega) (by omega), bits_xor_u64_nat x y hx hy⟩
set_option maxHeartbeats 4000000 in
theorem Next_any (blk off n sb : Nat) (d : Array Int) (w0 w : World) (hP : Pr blk off w0 w n d sb) :
    Calls Tryz.prog 126 #[.pointer (some ⟨sb, 0, none⟩)] w fun e w' =>
      ∃ x : Nat, x < 18446744073709551616 ∧ e = .returned (.int .u64 x) ∧ Pr blk off w0 w' n d sb := by
  obtain ⟨X, hX, hc⟩ := hP.cell
  have hf := hP.free
  have HP : Hid (Pr blk off w0 w n d sb) := hP
  clear hP
  obtain ⟨A, hA, e1⟩ : ∃ A : Nat, A < 18446744073709551616 ∧ bits .xor .u64 (X : Int) (IntKind.u64.wrap ((X : Int) * 8192)) = (A : Int) := by
    rw [IntKind.wrap_u64, show ((X : Int) * 8192 % 18446744073709551616) = ((X * 8192 % 18446744073709551616 : Nat) : Int) by omega]
    exact xorU _ _ hX (by omega)
  obtain ⟨B, hB, e2⟩ : ∃ B : Nat, B < 18446744073709551616 ∧ bits .xor .u64 (A : Int) ((A : Int) / 128) = (B : Int) := by
    rw [show ((A : Int) / 128) = ((A / 128 : Nat) : Int) by omega]
    exact xorU _ _ hA (by omega)
  obtain ⟨C, hC, e3⟩ : ∃ C : Nat, C < 18446744073709551616 ∧ bits .xor .u64 (B : Int) (IntKind.u64.wrap ((B : Int) * 131072)) = (C : Int) := by
    rw [IntKind.wrap_u64, show ((B : Int) * 131072 % 18446744073709551616) = ((B * 131072 % 18446744073709551616 : Nat) : Int) by omega]
    exact xorU _ _ hB (by omega)
  have hss : ∀ v v', (w.setCell ⟨sb, 0, none⟩ v).setCell ⟨sb, 0, none⟩ v' = w.setCell ⟨sb, 0, none⟩ v' := setCell_setCell w sb 0
  have HC : Hid (C < 18446744073709551616) := hC
  clear hA hB hC hX
  go_enter Tryz.func126, Tryz.ntmps126
  go_wp2
  go_region
  all_goals go_wp2
  all_goals go_region
  all_goals go_wp2
  all_goals go_region
  all_goals go_wp2
  go_ret
  exact ⟨C, HC.out, rfl, (HP.out.put HC.out).drewN 3⟩
theorem nextPower_any (l : Nat) (hl : 0 < l) (hl2 : l < 4611686018427387904) (w : World) :
    Calls Tryz.prog 125 #[.int .i64 l] w fun e w' => ∃ M : Nat, e = .returned (.int .u64 M) ∧ w' = w ∧ l < M ∧ M ≤ 2 * l := by
  have hLen : ∀ w, Calls Tryz.prog 82 #[.int .u64 (l : Int)] w fun e w' => e = .returned (.int .i64 (bitsLen l : Nat)) ∧ w' = w := fun w => by
    have h := bits_Len (l : Int) w (by omega) (by omega)
    rwa [Int.toNat_natCast, bitLen_eq _ (by omega)] at h
  have hk : bitsLen l ≤ 62 := (bitsLen_le_iff l 62).2 (by omega)
  have hp := wrap_two_pow (bitsLen l) hk
  have h1 := lt_two_pow_bitsLen l
  have h2 := two_pow_bitsLen_le hl
  have HH : Hid (l < 2 ^ bitsLen l ∧ 2 ^ bitsLen l ≤ 2 * l) := ⟨h1, h2⟩
  clear h1 h2
  go_enter Tryz.func125, Tryz.ntmps125
  go_wp2_with (first | (go_at_call 82; refine (hLen _).mono ?_; rintro e w' ⟨rfl, rfl⟩))
  go_ret
  exact ⟨1 <<< bitsLen l, rfl, rfl, by rw [Nat.one_shiftLeft]; exact HH.out.1, by rw [Nat.one_shiftLeft]; exact HH.out.2⟩
end SrtU
end Go.Proofs.YthecngkdmnadoaaGreat

/- The library's sort at uint64: breaking patterns. -/
namespace Go.Proofs.YthecngkdmnadoaaGreat
open Go.RowKit Go.Sort
set_option maxRecDepth 100000
namespace SrtU

theorem Pr.swap {blk off n sb : Nat} {w0 w : World} {d : Array Int} (h : Pr blk off w0 w n d sb) {i j : Nat} (hi : i < n) (hj : j < n) :
    Pr blk off w0 ((w.drew.setCell ⟨blk, off + i, none⟩ (enc d[j]!)).setCell ⟨blk, off + j, none⟩ (enc d[i]!)) n (swp d i j) sb := by
  have hne : sb ≠ blk := by have := h.low; have := h.own; omega
  obtain ⟨v, hv, hc⟩ := h.cell
  refine ⟨(h.at_.drew).swap hi hj, h.low, h.own, ⟨v, hv, ?_⟩, ?_⟩
  · rw [World.cell?_of_block (w := w) (a := ⟨sb, 0, none⟩) (by
      show ((w.drew.setCell ⟨blk, off + i, none⟩ (enc d[j]!)).setCell ⟨blk, off + j, none⟩ (enc d[i]!)).heap[sb]? = w.heap[sb]?
      rw [Below.heap_setCell _ _ _ _ hne, Below.heap_setCell _ _ _ _ hne]; rfl)]
    exact hc
  · rw [World.frozen?_of_block (w := w) (a := ⟨sb, 0, none⟩) (by
      show ((w.drew.setCell ⟨blk, off + i, none⟩ (enc d[j]!)).setCell ⟨blk, off + j, none⟩ (enc d[i]!)).heap[sb]? = w.heap[sb]?
      rw [Below.heap_setCell _ _ _ _ hne, Below.heap_setCell _ _ _ _ hne]; rfl)]
    exact h.free
theorem andU (x M : Nat) (hx : x < 18446744073709551616) (h0 : 0 < M) (hM : M < 9223372036854775808) : ∃ A : Nat, A < M ∧ bits .and .u64 (x : Int) ((M : Int) - 1) = (A : Int) :=
  ⟨x &&& (M - 1), by have := Nat.and_le_right (n := x) (m := M - 1); omega, by rw [show ((M : Int) - 1) = ((M - 1 : Nat) : Int) by omega, bits_and_u64_nat _ _ hx (by omega)]⟩
set_option maxHeartbeats 8000000 in
theorem breakPatterns_any (blk off cap a b n : Nat) (d : Array Int) (w0 w : World) (hA : At blk off w0 w n d) (hlow : blk < w0.heap.size) (hab : a + 12 < b) (hb : b ≤ n) (hsz : n < 2305843009213693952) :
    Calls Tryz.prog 106 #[.slice (some ⟨blk, off, none⟩) n cap, .int .i64 a, .int .i64 b] w fun e w' =>
      e = .returned (.tuple #[]) ∧ ∃ d', PermIn a b d d' ∧ At blk off w0 w' n d' := by
  obtain ⟨l, hl⟩ : ∃ l, b - a = l := ⟨_, rfl⟩
  obtain ⟨q, hq⟩ : ∃ q, l / 4 = q := ⟨_, rfl⟩
  obtain ⟨m, hm⟩ : ∃ m, a + q * 2 = m := ⟨_, rfl⟩
  have hli : (b : Int) - (a : Int) = (l : Int) := by omega
  have hqi : (l : Int).tdiv 4 = (q : Int) := by rw [Int.tdiv_eq_ediv_of_nonneg (by omega)]; omega
  have hmi : (a : Int) + (q : Int) * 2 = (m : Int) := by omega
  have hl8 : (8 : Int) ≤ (l : Int) := by omega
  have hal : a + l = b := by omega
  have m1 : a + 1 ≤ m := by omega
  have m2 : m + 1 < b := by omega
  have hl0 : 0 < l := by omega
  have hln : l < 2305843009213693952 := by omega
  have HP : Hid (Pr blk off w0 (w.alloc (.cells #[.int .u64 l] 177)) n d w.heap.size) :=
    ⟨hA.alloc hlow _, hlow, hA.step.size, ⟨l, by omega, by go_simp⟩, by go_simp⟩
  have hds : d.size = n := hA.size
  clear hl hq hm hA
  have HDS : Hid (d.size = n) := hds
  clear hds
  go_enter Tryz.func106, Tryz.ntmps106
  go_wp2_with (go_at_call 125; refine (nextPower_any l hl0 (by omega) _).mono ?_; rintro e w' ⟨M, rfl, rfl, hM1, hM2⟩)
  have hM0 : 0 < M := by omega
  have hM3 : M < 4611686018427387904 := by omega
  have HM : Hid (M ≤ 2 * l) := hM2
  clear hM2
  go_loopw [9] (fun vi wr => ∃ (t : Nat) (dk : Array Int), vi = .int .i64 t ∧ m ≤ t + 1 ∧ t ≤ m + 2 ∧ Pr blk off w0 wr n dk w.heap.size ∧ PermIn a b d dk) (fun vi _ => (m + 2 - (intOf vi).toNat))
  case atStart => exact ⟨m - 1, d, by congr 1; omega, by omega, by omega, HP.out, permIn_refl d a b⟩
  case round =>
    obtain ⟨t, dk, rfl, ht1, ht2, hP1, hp⟩ := hrel
    have HP1 : Hid (Pr blk off w0 wr n dk w.heap.size) := hP1
    have Hp : Hid (PermIn a b d dk) := hp
    clear hP1 hp HP
    by_cases ht : t ≤ m + 1
    · have hti : (t : Int) ≤ (m : Int) + 1 := by omega
      have htn : t < n := by omega
      go_wp2_with (go_at_call 126; refine (Next_any blk off n w.heap.size dk w0 _ HP1.out).mono ?_; rintro e w' ⟨x, hx, rfl, hP2⟩; obtain ⟨o, ho, hoe⟩ := andU x M hx hM0 (by omega); have ho2 : o < 4611686018427387904 := by omega)
      · have hlo : l ≤ o := by omega
        obtain ⟨y, hy⟩ : ∃ y, a + (o - l) = y := ⟨_, rfl⟩
        have hyi : (a : Int) + ((o : Int) - (l : Int)) = (y : Int) := by omega
        have hyb : y < b := by have := HM.out; omega
        have hay : a ≤ y := by omega
        have hyn : y < n := by omega
        obtain ⟨G, hG, hcw, hfw⟩ := hP2.at_.fam
        have HG : Hid (∀ t, G t = dk[t]!) := hG
        have HP3 : Hid (Pr blk off w0 ((w'.drew.setCell ⟨blk, off + t, none⟩ (enc dk[y]!)).setCell ⟨blk, off + y, none⟩ (enc dk[t]!)) n (swp dk t y) w.heap.size) := hP2.swap htn hyn
        have HQ : Hid (PermIn a b d (swp dk t y)) := permIn_trans _ _ _ a b Hp.out (swp_permIn dk a b t y (by omega) (by omega) hay hyb (by rw [hP2.at_.size]; exact hb))
        clear hG hP2 hy
        by_cases hty : t = y
        · subst hty
          go_region
          all_goals go_wp2
          go_roundw
          case rel =>
            exact ⟨t + 1, _, by go_num, by omega, by omega, (by simp only [HG.out]; exact HP3.out), HQ.out⟩
          case measure => simp [intOf]; omega
        · go_region
          all_goals go_wp2
          go_roundw
          case rel =>
            exact ⟨t + 1, _, by go_num, by omega, by omega, (by simp only [HG.out]; exact HP3.out), HQ.out⟩
          case measure => simp [intOf]; omega
      · have hlo : o < l := by omega
        obtain ⟨y, hy⟩ : ∃ y, a + o = y := ⟨_, rfl⟩
        have hyi : (a : Int) + (o : Int) = (y : Int) := by omega
        have hyb : y < b := by omega
        have hay : a ≤ y := by omega
        have hyn : y < n := by omega
        obtain ⟨G, hG, hcw, hfw⟩ := hP2.at_.fam
        have HG : Hid (∀ t, G t = dk[t]!) := hG
        have HP3 : Hid (Pr blk off w0 ((w'.drew.setCell ⟨blk, off + t, none⟩ (enc dk[y]!)).setCell ⟨blk, off + y, none⟩ (enc dk[t]!)) n (swp dk t y) w.heap.size) := hP2.swap htn hyn
        have HQ : Hid (PermIn a b d (swp dk t y)) := permIn_trans _ _ _ a b Hp.out (swp_permIn dk a b t y (by omega) (by omega) hay hyb (by rw [hP2.at_.size]; exact hb))
        clear hG hP2 hy
        by_cases hty : t = y
        · subst hty
          go_region
          all_goals go_wp2
          go_roundw
          case rel =>
            exact ⟨t + 1, _, by go_num, by omega, by omega, (by simp only [HG.out]; exact HP3.out), HQ.out⟩
          case measure => simp [intOf]; omega
        · go_region
          all_goals go_wp2
          go_roundw
          case rel =>
            exact ⟨t + 1, _, by go_num, by omega, by omega, (by simp only [HG.out]; exact HP3.out), HQ.out⟩
          case measure => simp [intOf]; omega
    · go_wp2
      go_end0
      exact ⟨rfl, dk, Hp.out, HP1.out.at_⟩
end SrtU
end Go.Proofs.YthecngkdmnadoaaGreat
