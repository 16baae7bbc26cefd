/- The library's sort at int: breaking patterns. -/
import Derived.Test.YtpmmpdkeahmdiaaSrtI8
import Derived.Laws.Bits64b
namespace Go.Proofs.Ytpmmpdkeahmdiaa
open Go.RowKit Go.Sort
set_option maxRecDepth 100000
namespace SrtI

theorem Pr.swap {blk off n sb : Nat} {w0 w : World} {d : Array Int} (h : Pr blk off w0 w n d sb) {i j : Nat} (hi : i < n) (hj : j < n) :
    Pr blk off w0 ((w.drew.setCell ⟨blk, off + i, none⟩ (enc d[j]!)).setCell ⟨blk, off + j, none⟩ (enc d[i]!)) n (swp d i j) sb := by
  have hne : sb ≠ blk := by have := h.low; have := h.own; omega
  obtain ⟨v, hv, hc⟩ := h.cell
  refine ⟨(h.at_.drew).swap hi hj, h.low, h.own, ⟨v, hv, ?_⟩, ?_⟩
  · rw [World.cell?_of_block (w := w) (a := ⟨sb, 0, none⟩) (by
      show ((w.drew.setCell ⟨blk, off + i, none⟩ (enc d[j]!)).setCell ⟨blk, off + j, none⟩ (enc d[i]!)).heap[sb]? = w.heap[sb]?
      rw [Below.heap_setCell _ _ _ _ hne, Below.heap_setCell _ _ _ _ hne]; rfl)]
    exact hc
  · rw [World.frozen?_of_block (w := w) (a := ⟨sb, 0, none⟩) (by
      show ((w.drew.setCell ⟨blk, off + i, none⟩ (enc d[j]!)).setCell ⟨blk, off + j, none⟩ (enc d[i]!)).heap[sb]? = w.heap[sb]?
      rw [Below.heap_setCell _ _ _ _ hne, Below.heap_setCell _ _ _ _ hne]; rfl)]
    exact h.free
theorem andU (x M : Nat) (hx : x < 18446744073709551616) (h0 : 0 < M) (hM : M < 9223372036854775808) : ∃ A : Nat, A < M ∧ bits .and .u64 (x : Int) ((M : Int) - 1) = (A : Int) :=
  ⟨x &&& (M - 1), by have := Nat.and_le_right (n := x) (m := M - 1); omega, by rw [show ((M : Int) - 1) = ((M - 1 : Nat) : Int) by omega, bits_and_u64_nat _ _ hx (by omega)]⟩
set_option maxHeartbeats 8000000 in
theorem breakPatterns_any (blk off cap a b n : Nat) (d : Array Int) (w0 w : World) (hA : At blk off w0 w n d) (hlow : blk < w0.heap.size) (hab : a + 12 < b) (hb : b ≤ n) (hsz : n < 2305843009213693952) :
    Calls Try.prog 108 #[.slice (some ⟨blk, off, none⟩) n cap, .int .i64 a, .int .i64 b] w fun e w' =>
      e = .returned (.tuple #[]) ∧ ∃ d', PermIn a b d d' ∧ At blk off w0 w' n d' := by
  obtain ⟨l, hl⟩ : ∃ l, b - a = l := ⟨_, rfl⟩
  obtain ⟨q, hq⟩ : ∃ q, l / 4 = q := ⟨_, rfl⟩
  obtain ⟨m, hm⟩ : ∃ m, a + q * 2 = m := ⟨_, rfl⟩
  have hli : (b : Int) - (a : Int) = (l : Int) := by omega
  have hqi : (l : Int).tdiv 4 = (q : Int) := by rw [Int.tdiv_eq_ediv_of_nonneg (by omega)]; omega
  have hmi : (a : Int) + (q : Int) * 2 = (m : Int) := by omega
  have hl8 : (8 : Int) ≤ (l : Int) := by omega
  have hal : a + l = b := by omega
  have m1 : a + 1 ≤ m := by omega
  have m2 : m + 1 < b := by omega
  have hl0 : 0 < l := by omega
  have hln : l < 2305843009213693952 := by omega
  have HP : Hid (Pr blk off w0 (w.alloc (.cells #[.int .u64 l] 166)) n d w.heap.size) :=
    ⟨hA.alloc hlow _, hlow, hA.step.size, ⟨l, by omega, by go_simp⟩, by go_simp⟩
  have hds : d.size = n := hA.size
  clear hl hq hm hA
  have HDS : Hid (d.size = n) := hds
  clear hds
  go_enter Try.func108, Try.ntmps108
  go_wp2_with (go_at_call 116; refine (nextPower_any l hl0 (by omega) _).mono ?_; rintro e w' ⟨M, rfl, rfl, hM1, hM2⟩)
  have hM0 : 0 < M := by omega
  have hM3 : M < 4611686018427387904 := by omega
  have HM : Hid (M ≤ 2 * l) := hM2
  clear hM2
  go_loopw [9] (fun vi wr => ∃ (t : Nat) (dk : Array Int), vi = .int .i64 t ∧ m ≤ t + 1 ∧ t ≤ m + 2 ∧ Pr blk off w0 wr n dk w.heap.size ∧ PermIn a b d dk) (fun vi _ => (m + 2 - (intOf vi).toNat))
  case atStart => exact ⟨m - 1, d, by congr 1; omega, by omega, by omega, HP.out, permIn_refl d a b⟩
  case round =>
    obtain ⟨t, dk, rfl, ht1, ht2, hP1, hp⟩ := hrel
    have HP1 : Hid (Pr blk off w0 wr n dk w.heap.size) := hP1
    have Hp : Hid (PermIn a b d dk) := hp
    clear hP1 hp HP
    by_cases ht : t ≤ m + 1
    · have hti : (t : Int) ≤ (m : Int) + 1 := by omega
      have htn : t < n := by omega
      go_wp2_with (go_at_call 117; refine (Next_any blk off n w.heap.size dk w0 _ HP1.out).mono ?_; rintro e w' ⟨x, hx, rfl, hP2⟩; obtain ⟨o, ho, hoe⟩ := andU x M hx hM0 (by omega); have ho2 : o < 4611686018427387904 := by omega)
      · have hlo : l ≤ o := by omega
        obtain ⟨y, hy⟩ : ∃ y, a + (o - l) = y := ⟨_, rfl⟩
        have hyi : (a : Int) + ((o : Int) - (l : Int)) = (y : Int) := by omega
        have hyb : y < b := by have := HM.out; omega
        have hay : a ≤ y := by omega
        have hyn : y < n := by omega
        obtain ⟨G, hG, hcw, hfw⟩ := hP2.at_.fam
        have HG : Hid (∀ t, G t = dk[t]!) := hG
        have HP3 : Hid (Pr blk off w0 ((w'.drew.setCell ⟨blk, off + t, none⟩ (enc dk[y]!)).setCell ⟨blk, off + y, none⟩ (enc dk[t]!)) n (swp dk t y) w.heap.size) := hP2.swap htn hyn
        have HQ : Hid (PermIn a b d (swp dk t y)) := permIn_trans _ _ _ a b Hp.out (swp_permIn dk a b t y (by omega) (by omega) hay hyb (by rw [hP2.at_.size]; exact hb))
        clear hG hP2 hy
        by_cases hty : t = y
        · subst hty
          go_region
          all_goals go_wp2
          go_roundw
          case rel =>
            exact ⟨t + 1, _, by go_num, by omega, by omega, (by simp only [HG.out]; exact HP3.out), HQ.out⟩
          case measure => simp [intOf]; omega
        · go_region
          all_goals go_wp2
          go_roundw
          case rel =>
            exact ⟨t + 1, _, by go_num, by omega, by omega, (by simp only [HG.out]; exact HP3.out), HQ.out⟩
          case measure => simp [intOf]; omega
      · have hlo : o < l := by omega
        obtain ⟨y, hy⟩ : ∃ y, a + o = y := ⟨_, rfl⟩
        have hyi : (a : Int) + (o : Int) = (y : Int) := by omega
        have hyb : y < b := by omega
        have hay : a ≤ y := by omega
        have hyn : y < n := by omega
        obtain ⟨G, hG, hcw, hfw⟩ := hP2.at_.fam
        have HG : Hid (∀ t, G t = dk[t]!) := hG
        have HP3 : Hid (Pr blk off w0 ((w'.drew.setCell ⟨blk, off + t, none⟩ (enc dk[y]!)).setCell ⟨blk, off + y, none⟩ (enc dk[t]!)) n (swp dk t y) w.heap.size) := hP2.swap htn hyn
        have HQ : Hid (PermIn a b d (swp dk t y)) := permIn_trans _ _ _ a b Hp.out (swp_permIn dk a b t y (by omega) (by omega) hay hyb (by rw [hP2.at_.size]; exact hb))
        clear hG hP2 hy
        by_cases hty : t = y
        · subst hty
          go_region
          all_goals go_wp2
          go_roundw
          case rel =>
            exact ⟨t + 1, _, by go_num, by omega, by omega, (by simp only [HG.out]; exact HP3.out), HQ.out⟩
          case measure => simp [intOf]; omega
        · go_region
          all_goals go_wp2
          go_roundw
          case rel =>
            exact ⟨t + 1, _, by go_num, by omega, by omega, (by simp only [HG.out]; exact HP3.out), HQ.out⟩
          case measure => simp [intOf]; omega
    · go_wp2
      go_end0
      exact ⟨rfl, dk, Hp.out, HP1.out.at_⟩
end SrtI
end Go.Proofs.Ytpmmpdkeahmdiaa
