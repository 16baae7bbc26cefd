/- CodecBursts: the law's own walk. -/
import Derived.Test.YtidnhldjnbpafabBurst2
namespace Go.Proofs.Ytidnhldjnbpafab
open Go.RowKit
set_option maxRecDepth 100000
attribute [local go_sem ↓] Go.wp_at_zero Go.wp_at_succ

/-- A byte of a row that the call has made is stored. -/
theorem bytes_set {B : Nat} {w : World} {g len cap : Nat} {xs : List Nat} (h : Bytes B w (.slice (some ⟨g, 0, none⟩) len cap) xs) {i x : Nat} (_hi : i < xs.length) :
    Bytes B (w.setCell ⟨g, i, none⟩ (bv x)) (.slice (some ⟨g, 0, none⟩) len cap) (xs.set i x) := by
  obtain ⟨hl, hn | ⟨g', cap', cur, e, h1, hg, h2, h3, h4, h5⟩⟩ := h
  · obtain ⟨e, _⟩ := hn; cases e
  · simp only [Value.slice.injEq, Option.some.injEq, Addr.mk.injEq, and_true] at e
    obtain ⟨rfl, rfl, rfl⟩ := e
    refine ⟨by simp, .inr ⟨g, cap, cur.setIfInBounds i (bv x), by rw [List.length_set], h1, ?_, by rw [List.length_set]; exact h2, h3, by simpa using h4, ?_⟩⟩
    · simp [World.setCell, Array.getElem?_modify, hg]
    · rw [List.length_set, List.map_set, ← h5, Array.toList_setIfInBounds, List.take_set]

/-- The row behind k rounds, where the bits that are left are M. -/
def turned (hd bd : List Nat) (m d M k : Nat) : List Nat := hd ++ xorL bd (errB (2 ^ d * (M % 2 ^ k)) m)
def fits (m d M k : Nat) : Prop := 2 ^ d * (M % 2 ^ k) < 256 ^ m
theorem turned_zero {hd bd : List Nat} {m : Nat} (h : bd.length = m) (d M : Nat) : turned hd bd m d M 0 = hd ++ bd ∧ fits m d M 0 := by
  unfold turned fits
  rw [Nat.pow_zero, Nat.mod_one, Nat.mul_zero, xorL_zero h]
  exact ⟨rfl, Nat.pow_pos (by decide)⟩
theorem turned_same {hd bd : List Nat} {m d M k : Nat} (h : M / 2 ^ k % 2 = 0) : turned hd bd m d M (k + 1) = turned hd bd m d M k ∧ fits m d M (k + 1) = fits m d M k := by
  have e : M % 2 ^ (k + 1) = M % 2 ^ k := by rw [Nat.pow_succ, Nat.mod_mul, h, Nat.mul_zero, Nat.add_zero]
  unfold turned fits
  rw [e]
  exact ⟨rfl, rfl⟩
theorem turned_len {hd bd : List Nat} {m : Nat} (h : bd.length = m) (d M k : Nat) : (turned hd bd m d M k).length = hd.length + m := by
  unfold turned; rw [List.length_append, xorL_len h]
theorem turned_byte {hd bd : List Nat} {m : Nat} (h : bd.length = m) (hh : ∀ x ∈ hd, x < 256) (hb : ∀ x ∈ bd, x < 256) (d M k : Nat) : ∀ x ∈ turned hd bd m d M k, x < 256 := by
  intro x hx
  rcases List.mem_append.1 hx with hx | hx
  · exact hh x hx
  · exact xorL_byte h hb x hx
theorem turned_flip {hd bd : List Nat} {m d M k : Nat} (h : bd.length = m) (hbit : M / 2 ^ k % 2 = 1) (hin : d + k < 8 * m) :
    turned hd bd m d M (k + 1) = (turned hd bd m d M k).set (hd.length + (d + k) / 8) ((turned hd bd m d M k).getD (hd.length + (d + k) / 8) 0 ^^^ 2 ^ ((d + k) % 8)) ∧ fits m d M (k + 1) := by
  have e : M % 2 ^ (k + 1) = M % 2 ^ k + 2 ^ k := by rw [Nat.pow_succ, Nat.mod_mul, hbit, Nat.mul_one]
  have e2 : 2 ^ d * (M % 2 ^ (k + 1)) = 2 ^ d * (M % 2 ^ k) + 2 ^ (d + k) := by rw [e, Nat.mul_add, ← Nat.pow_add]
  have hlt : 2 ^ d * (M % 2 ^ k) < 2 ^ (d + k) := by
    rw [Nat.pow_add]
    exact Nat.mul_lt_mul_of_pos_left (Nat.mod_lt _ (Nat.pow_pos (by decide))) (Nat.pow_pos (by decide))
  have hd8 : (d + k) / 8 < m := by omega
  unfold turned fits at *
  rw [e2, xorL_flip h hlt hd8]
  constructor
  · rw [List.set_append_right _ _ (by omega), Nat.add_sub_cancel_left]
    congr 2
    rw [List.getD_eq_getElem?_getD, List.getD_eq_getElem?_getD, List.getElem?_append_right (by omega), Nat.add_sub_cancel_left]
  · have h1 : 2 ^ (d + k + 1) ≤ 2 ^ (8 * m) := Nat.pow_le_pow_right (by decide) (by omega)
    rw [Nat.pow_succ] at h1
    have h2 : (256 : Nat) ^ m = 2 ^ (8 * m) := by rw [Nat.pow_mul]
    rw [h2]
    omega
theorem turned_out {hd bd : List Nat} {m d M k : Nat} (hM : M < 4294967296) (hk : k < 32) (hbit : M / 2 ^ k % 2 = 1) :
    (M &&& (4294967295 - 2 ^ k)) = M - 2 ^ k ∧ turned hd bd m d (M - 2 ^ k) (k + 1) = turned hd bd m d M k ∧ fits m d (M - 2 ^ k) (k + 1) = fits m d M k := by
  have hp : 2 ^ k ≤ M := by
    rcases Nat.lt_or_ge M (2 ^ k) with h | h
    · rw [Nat.div_eq_of_lt h] at hbit; omega
    · exact h
  have hmm : (M - 2 ^ k) % 2 ^ (k + 1) = M % 2 ^ k := by
    have e : M % 2 ^ (k + 1) = M % 2 ^ k + 2 ^ k := by rw [Nat.pow_succ, Nat.mod_mul, hbit, Nat.mul_one]
    have h1 := Nat.div_add_mod M (2 ^ (k + 1))
    have h2 : M - 2 ^ k = 2 ^ (k + 1) * (M / 2 ^ (k + 1)) + M % 2 ^ k := by omega
    rw [h2, Nat.mul_add_mod]
    exact Nat.mod_eq_of_lt (Nat.lt_of_lt_of_le (Nat.mod_lt _ (Nat.pow_pos (by decide))) (Nat.pow_le_pow_right (by decide) (by omega)))
  refine ⟨?_, ?_, ?_⟩
  · have h1 := Nat.div_add_mod M (2 ^ (k + 1))
    have e : M % 2 ^ (k + 1) = M % 2 ^ k + 2 ^ k := by rw [Nat.pow_succ, Nat.mod_mul, hbit, Nat.mul_one]
    have h2 : M - 2 ^ k = 2 ^ (k + 1) * (M / 2 ^ (k + 1)) + M % 2 ^ k := by omega
    have h3 : M % 2 ^ k < 2 ^ (k + 1) := Nat.lt_of_lt_of_le (Nat.mod_lt _ (Nat.pow_pos (by decide))) (Nat.pow_le_pow_right (by decide) (by omega))
    have h4 : 2 ^ k < 2 ^ 32 := Nat.pow_lt_pow_right (by decide) hk
    rw [h2]
    apply Nat.eq_of_testBit_eq
    intro i
    have h5 : 32 ≤ i → M.testBit i = false := fun h => Nat.testBit_lt_two_pow (Nat.lt_of_lt_of_le hM (by rw [show (4294967296 : Nat) = 2 ^ 32 by decide]; exact Nat.pow_le_pow_right (by decide) h))
    rw [Nat.testBit_and, show 4294967295 - 2 ^ k = 2 ^ 32 - (2 ^ k + 1) by omega, Nat.testBit_two_pow_sub_succ h4, Nat.testBit_two_pow, Nat.testBit_two_pow_mul_add _ h3, Nat.testBit_mod_two_pow, Nat.testBit_div_two_pow]
    by_cases hi : i < k + 1
    · rw [if_pos hi]
      by_cases hik : i < k
      · simp [hik, show ¬ k = i by omega, show i < 32 by omega]
      · simp [show k = i by omega]
    · rw [if_neg hi, show i - (k + 1) + (k + 1) = i by omega]
      by_cases h32 : i < 32
      · simp [h32, show ¬ k = i by omega]
      · rw [h5 (by omega)]; simp
  · unfold turned; rw [hmm]
  · unfold fits; rw [hmm]

set_option maxHeartbeats 4000000 in
theorem bursts_walk (v : Value) (n : Int) (b0 : Nat) (w : World) (xs : List Nat) (hrow : Row w.heap.size w v xs) (hl : xs.length ≤ 140737488351232) (hx : ∀ x ∈ xs, x < 256) (hn1 : -9223372036854775808 ≤ n) (hn2 : n ≤ 9223372036854775807) (hb0 : b0 < 4294967296) :
    Calls Try.prog 7 #[v, .int .i64 n, .int .u32 (b0 : Int)] w fun e w' => e = .returned (.bool true) ∧ Below w.heap.size w w' := by
  have HR : Hid (Row w.heap.size w v xs) := hrow
  have HX : Hid (∀ x ∈ xs, x < 256) := hx
  obtain ⟨ao, cap, rfl, hcap⟩ := hrow.shape
  clear hrow hx
  go_enter Try.func7, Try.ntmps7
  go_wp2_with fail
  refine (Seal_any _ _ xs w HR.out (Nat.le_refl _) HX.out (by omega)).mono ?_
  rintro e w1 ⟨hb1, hr1⟩
  have hs1 := hb1.size
  rcases hr1 with ⟨hlong, rfl⟩ | ⟨hsh, v1, rfl, hown1⟩
  · go_wp2_with fail
    refine (alive_any w1).mono ?_
    rintro e w2 ⟨rfl, hb2⟩
    go_wp2_with fail
    go_ret
    exact ⟨rfl, hb1.trans (hb2.mono hs1)⟩
  have hul := uw_len10 (show xs.length < 18446744073709551616 by omega)
  have hlz : (sealOf xs).length = (uw xs.length).length + (xs.length + 4) := by rw [sealOf, List.length_append, List.length_append, le4_len]; omega
  have HSB : Hid (∀ x ∈ sealOf xs, x < 256) := seal_byte HX.out
  by_cases hz : b0 = 0
  · subst hz
    go_wp2_with fail
    refine (alive_any w1).mono ?_
    rintro e w2 ⟨rfl, hb2⟩
    go_wp2_with fail
    go_ret
    exact ⟨rfl, hb1.trans (hb2.mono hs1)⟩
  have hzb : ((b0 : Int) == 0) = false := by simpa using hz
  obtain ⟨g, capz, rfl, hgb⟩ : ∃ g capz, v1 = .slice (some ⟨g, 0, none⟩) (sealOf xs).length capz ∧ (sealOf xs).length ≤ capz := by
    obtain ⟨_, hn | ⟨g, capz, cur, e, _, _, h2, _⟩⟩ := hown1
    · omega
    · exact ⟨g, capz, e, h2⟩
  have hcz : (sealOf xs).length ≤ 140737488355328 := by omega
  have HZ : Hid (sealOf xs = uw xs.length ++ (xs ++ le4 (sumOf xs))) := by show _ = _; rw [sealOf, List.append_assoc]
  have HO1 : Hid (Bytes w.heap.size w1 (.slice (some ⟨g, 0, none⟩) (sealOf xs).length capz) (sealOf xs)) := hown1
  have hgw : w.heap.size ≤ g := by
    obtain ⟨_, hn | ⟨g', capz', cur, e, h1, _⟩⟩ := hown1
    · simp at hn
    · simp only [Value.slice.injEq, Option.some.injEq, Addr.mk.injEq, and_true] at e
      omega
  have HUB : Hid (∀ d b, b < 4294967296 → b ≠ 0 → fits (xs.length + 4) d b 32 → (unsealR (turned (uw xs.length) (xs ++ le4 (sumOf xs)) (xs.length + 4) d b 32)).2.2 = 24) := fun d b h1 h2 h3 => by
    unfold turned fits at *
    rw [show b % 2 ^ 32 = b from Nat.mod_eq_of_lt h1] at *
    exact unseal_burst HX.out hsh h1 h2 h3
  have HHB : Hid ((∀ x ∈ uw xs.length, x < 256) ∧ ∀ x ∈ xs ++ le4 (sumOf xs), x < 256) := ⟨uw_byte _, fun x hm => by
    rcases List.mem_append.1 hm with hm | hm
    · exact HX.out x hm
    · exact le4_byte _ x hm⟩
  have hbl : (xs ++ le4 (sumOf xs)).length = xs.length + 4 := by rw [List.length_append, le4_len]
  clear hown1
  generalize (sealOf xs).length = z at *
  generalize hhd : uw xs.length = hd at *
  generalize hbd : xs ++ le4 (sumOf xs) = bd at *
  have HLZ : Hid (z = hd.length + (xs.length + 4)) := hlz
  have hfr : (z : Int) - 4 - (xs.length : Int) = (hd.length : Int) := by omega
  have hz5 : (xs.length : Int) + 5 ≤ (z : Int) := by omega
  have HZ1 : Hid (sealOf xs = hd ++ bd) := HZ.out
  have HBL : Hid (bd.length = xs.length + 4) := hbl
  clear hlz hhd hbd HZ hbl
  by_cases hneg : n < 0
  · go_wp2_with fail
    refine (alive_any w1).mono ?_
    rintro e w2 ⟨rfl, hb2⟩
    go_wp2_with fail
    go_ret
    exact ⟨rfl, hb1.trans (hb2.mono hs1)⟩
  by_cases hbig : 8 * (xs.length : Int) + 32 ≤ n
  · go_wp2_with fail
    refine (alive_any w1).mono ?_
    rintro e w2 ⟨rfl, hb2⟩
    go_wp2_with fail
    go_ret
    exact ⟨rfl, hb1.trans (hb2.mono hs1)⟩
  obtain ⟨d, rfl⟩ : ∃ d : Nat, n = (d : Int) := ⟨n.toNat, by omega⟩
  have HD8 : Hid (d < 8 * (xs.length + 4)) := by show _ < _; omega
  clear hn1 hn2
  have HB0 : Hid (Bytes w.heap.size w1 (.slice (some ⟨g, 0, none⟩) z capz) (turned hd bd (xs.length + 4) d b0 0) ∧ fits (xs.length + 4) d b0 0) := by
    obtain ⟨h1, h2⟩ := turned_zero (hd := hd) HBL.out d b0
    rw [h1, ← HZ1.out]; exact ⟨HO1.out, h2⟩
  have HM4 : Hid ((xs.length + 4 : Nat) = xs.length + 4) := rfl
  generalize xs.length + 4 = m at HB0 HUB HBL HLZ HD8 HM4
  go_wp2_with fail
  go_loopw [2, 10] (fun vb vk wr => ∃ k M : Nat, k ≤ 32 ∧ vk = .int .i64 (k : Int) ∧ vb = .int .u32 (M : Int) ∧ M < 4294967296 ∧ fits m d M k ∧ Bytes w.heap.size wr (.slice (some ⟨g, 0, none⟩) z capz) (turned hd bd m d M k) ∧ Below w.heap.size w wr)
    (fun _ vk _ => 32 - (intOf vk).toNat)
  case atStart => exact ⟨0, b0, Nat.zero_le _, rfl, rfl, hb0, HB0.out.2, HB0.out.1, hb1⟩
  case round =>
    obtain ⟨k, M, hk, rfl, rfl, hM, hN, hown, hbel⟩ := hrel
    have HN : Hid (fits m d M k) := hN
    have HO : Hid (Bytes w.heap.size wr (.slice (some ⟨g, 0, none⟩) z capz) (turned hd bd m d M k)) := hown
    clear hN hown HB0 HO1
    by_cases hk32 : k < 32
    · have hsh2 : (M : Int) / 2 ^ k = ((M / 2 ^ k : Nat) : Int) := by push_cast; rfl
      have hMk : M / 2 ^ k < 4294967296 := Nat.lt_of_le_of_lt (Nat.div_le_self _ _) hM
      have hand := and1 hMk
      by_cases hbit : M / 2 ^ k % 2 = 1
      · rw [hbit] at hand
        by_cases hin : d + k < 8 * m
        · obtain ⟨e1, e2⟩ := turned_flip (hd := hd) HBL.out hbit hin
          have HF : Hid (turned hd bd m d M (k + 1) = (turned hd bd m d M k).set (hd.length + (d + k) / 8) ((turned hd bd m d M k).getD (hd.length + (d + k) / 8) 0 ^^^ 2 ^ ((d + k) % 8)) ∧ fits m d M (k + 1)) := ⟨e1, e2⟩
          have hzl := HLZ.out
          have htl := turned_len (hd := hd) HBL.out d M k
          have hx2 : hd.length + (d + k) / 8 < (turned hd bd m d M k).length := by omega
          have hc256 := byte_at (turned_byte HBL.out HHB.out.1 HHB.out.2 d M k) (hd.length + (d + k) / 8)
          have hq8 : (8 * (hd.length : Int) + (d : Int) + (k : Int)) / 8 = ((hd.length + (d + k) / 8 : Nat) : Int) := by omega
          have hr8 : (8 * (hd.length : Int) + (d : Int) + (k : Int)) % 8 = (((d + k) % 8 : Nat) : Int) := by omega
          have hq8t : Int.tdiv (8 * (hd.length : Int) + (d : Int) + (k : Int)) 8 = ((hd.length + (d + k) / 8 : Nat) : Int) := by rw [Int.tdiv_eq_ediv_of_nonneg (by omega)]; exact hq8
          have hr8t : Int.tmod (8 * (hd.length : Int) + (d : Int) + (k : Int)) 8 = (((d + k) % 8 : Nat) : Int) := by rw [Int.tmod_eq_emod_of_nonneg (by omega)]; exact hr8
          have hxz : hd.length + (d + k) / 8 < z := by omega
          have hr : (d + k) % 8 < 8 := Nat.mod_lt _ (by decide)
          have hcell : wr.cell? ⟨g, hd.length + (d + k) / 8, none⟩ = some (bv ((turned hd bd m d M k).getD (hd.length + (d + k) / 8) 0)) ∧ wr.frozen? ⟨g, hd.length + (d + k) / 8, none⟩ = false := by
            obtain ⟨h1, hn | ⟨g', cap', cur, e, h2, hg, h3, h4, h5, h6⟩⟩ := HO.out
            · obtain ⟨e, _⟩ := hn; cases e
            · simp only [Value.slice.injEq, Option.some.injEq, Addr.mk.injEq, and_true] at e
              obtain ⟨rfl, _, rfl⟩ := e
              refine ⟨?_, by simp [World.frozen?, hg]⟩
              obtain ⟨_, _, e, _, _, hc⟩ := HO.out.row
              simp only [Value.slice.injEq] at e
              obtain ⟨rfl, _, rfl⟩ := e
              obtain ⟨b', off', e, _, hd'⟩ := hc (by omega)
              simp only [Option.some.injEq, Addr.mk.injEq, and_true] at e
              obtain ⟨rfl, rfl⟩ := e
              have := hd' _ hx2
              rwa [Nat.zero_add] at this
          obtain ⟨hcell, hfz⟩ := hcell
          clear e1 e2 htl
          generalize (turned hd bd m d M k).getD (hd.length + (d + k) / 8) 0 = c at HF hc256 hcell
          generalize hd.length + (d + k) / 8 = x at HF hx2 hq8 hq8t hxz hcell hfz
          generalize (d + k) % 8 = r at HF hr8 hr8t hr
          have hp : (2 : Nat) ^ r < 256 := by have := Nat.pow_le_pow_right (n := 2) (by decide) (show r ≤ 7 by omega); have e : (2 : Nat) ^ 7 = 128 := by decide
                                              omega
          have hpm : (2 : Int) ^ r = ((2 ^ r : Nat) : Int) := by push_cast; rfl
          have hxor := u8_xor_nat c (2 ^ r) hc256 hp
          have HX8 : Hid (c ^^^ 2 ^ r < 256) := Nat.xor_lt_two_pow (n := 8) hc256 hp
          generalize hy : c ^^^ 2 ^ r = y at HF hxor HX8
          generalize (2 : Nat) ^ r = p2 at hpm hxor hp hy
          generalize M / 2 ^ k = q at hsh2 hMk hand hbit
          have hwp : IntKind.u8.wrap (p2 : Int) = (p2 : Int) := by simp [IntKind.wrap, IntKind.bits, IntKind.signed]; omega
          have hxi : (x : Int) < (z : Int) := by omega
          have hxi0 : (0 : Int) ≤ (x : Int) := by omega
          have hwx : IntKind.i64.wrap (x : Int) = (x : Int) := by simp [IntKind.wrap, IntKind.bits, IntKind.signed]; omega
          have hcap2 : x < capz := by omega
          have HX2 : Hid (x < (turned hd bd m d M k).length) := hx2
          clear hbit hzl hy hx2
          go_wp2_with fail
          go_region
          go_wp2_with fail
          go_roundw
          case rel =>
            refine ⟨k + 1, M, by omega, by go_num, rfl, hM, HF.out.2, ?_, (hbel.setCell (p := ⟨g, x, none⟩) hgw _).drew⟩
            rw [HF.out.1]
            exact bytes_set HO.out HX2.out
          case measure => simp [intOf]; omega
        · obtain ⟨e1, e2, e3⟩ := turned_out (hd := hd) (bd := bd) (m := m) (d := d) hM hk32 hbit
          have HF : Hid (turned hd bd m d (M - 2 ^ k) (k + 1) = turned hd bd m d M k ∧ fits m d (M - 2 ^ k) (k + 1) = fits m d M k) := ⟨e2, e3⟩
          have hzl := HLZ.out
          have hq8 : (8 * (hd.length : Int) + (d : Int) + (k : Int)) / 8 = ((hd.length + (d + k) / 8 : Nat) : Int) := by omega
          have hxz : ¬ hd.length + (d + k) / 8 < z := by omega
          have hpk : (2 : Nat) ^ k < 4294967296 := by have := Nat.pow_lt_pow_right (a := 2) (by decide) hk32; rwa [show (2 : Nat) ^ 32 = 4294967296 by decide] at this
          have hnot := u32_andNot_nat M (2 ^ k) hM hpk
          have hpi : (2 : Int) ^ k % 4294967296 = ((2 ^ k : Nat) : Int) := by
            have e : (2 : Int) ^ k = ((2 ^ k : Nat) : Int) := by push_cast; rfl
            rw [e]
            exact Int.emod_eq_of_lt (Int.natCast_nonneg _) (by generalize (2 : Nat) ^ k = p at hpk; omega)
          rw [e1, ← hpi] at hnot
          clear hpi
          have hMl : M - 2 ^ k < 4294967296 := Nat.lt_of_le_of_lt (Nat.sub_le _ _) hM
          generalize M / 2 ^ k = q at hsh2 hMk hand hbit
          generalize hM' : M - 2 ^ k = M' at HF hnot hMl
          generalize hd.length + (d + k) / 8 = x at hq8 hxz
          clear hbit hzl e1 e2 e3 hM'
          go_wp2_with fail
          go_roundw
          case rel => exact ⟨k + 1, M', by omega, by go_num, by first | rw [hnot] | go_num, hMl, by rw [HF.out.2]; exact HN.out, by rw [HF.out.1]; exact HO.out, hbel⟩
          case measure => simp [intOf]; omega
      · have hb0' : M / 2 ^ k % 2 = 0 := by omega
        have HS : Hid (turned hd bd m d M (k + 1) = turned hd bd m d M k ∧ fits m d M (k + 1) = fits m d M k) := turned_same hb0'
        rw [hb0'] at hand
        generalize M / 2 ^ k = q at hsh2 hMk hand hbit hb0'
        clear hbit hb0'
        go_wp2_with fail
        go_roundw
        case rel => exact ⟨k + 1, M, by omega, by go_num, rfl, hM, by rw [HS.out.2]; exact HN.out, by rw [HS.out.1]; exact HO.out, hbel⟩
        case measure => simp [intOf]; omega
    · obtain rfl : k = 32 := by omega
      have hs := hbel.size
      have HRow : Hid (Row wr.heap.size wr (.slice (some ⟨g, 0, none⟩) z capz) (turned hd bd m d M 32)) := HO.out.row
      have HTB : Hid (∀ x ∈ turned hd bd m d M 32, x < 256) := turned_byte HBL.out HHB.out.1 HHB.out.2 d M 32
      have htl : (turned hd bd m d M 32).length ≤ 140737488355328 := by rw [turned_len HBL.out]; have := HLZ.out; omega
      by_cases hM0 : M = 0
      · subst hM0
        go_wp2_with fail
        refine (Unseal_any _ _ _ _ HRow.out (Nat.le_refl _) HTB.out htl).mono ?_
        rintro e w2 ⟨v2, rfl, _, hb2⟩
        have hb02 := hbel.trans (hb2.mono hs)
        have hs2 := hb02.size
        go_wp2_with fail
        refine (alive_any w2).mono ?_
        rintro e w3 ⟨rfl, hb3⟩
        go_wp2_with fail
        go_ret
        exact ⟨rfl, hb02.trans (hb3.mono hs2)⟩
      · have h24 := HUB.out d M hM hM0 HN.out
        have hMb : ((M : Int) == 0) = false := by simpa using hM0
        go_wp2_with fail
        refine (Unseal_any _ _ _ _ HRow.out (Nat.le_refl _) HTB.out htl).mono ?_
        rw [h24]
        rintro e w2 ⟨v2, rfl, _, hb2⟩
        have hb02 := hbel.trans (hb2.mono hs)
        have hs2 := hb02.size
        go_wp2_with fail
        refine (alive_any w2).mono ?_
        rintro e w3 ⟨rfl, hb3⟩
        go_wp2_with fail
        go_ret
        exact ⟨rfl, hb02.trans (hb3.mono hs2)⟩
end Go.Proofs.Ytidnhldjnbpafab
