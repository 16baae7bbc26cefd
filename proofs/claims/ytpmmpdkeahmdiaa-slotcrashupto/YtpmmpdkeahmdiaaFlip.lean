/- One bit of a sector that is turned: plain mathematics. -/
import Derived.Test.YtpmmpdkeahmdiaaSlotL
namespace Go.Proofs.Ytpmmpdkeahmdiaa
set_option maxRecDepth 100000

theorem errB_get (m : Nat) : ∀ (n i : Nat), i < m → (errB n m)[i]? = some (n / 256 ^ i % 256) := by
  induction m with
  | zero => intro n i h; omega
  | succ m ih =>
    intro n i h
    cases i with
    | zero => simp [errB]
    | succ i =>
      show (errB (n / 256) m)[i]? = _
      rw [ih _ _ (by omega), Nat.div_div_eq_div_mul, Nat.pow_succ, Nat.mul_comm]
theorem byte_flip (n d j : Nat) : (n ^^^ 2 ^ d) / 256 ^ j % 256 = (n / 256 ^ j % 256) ^^^ (if d / 8 = j then 2 ^ (d % 8) else 0) := by
  apply Nat.eq_of_testBit_eq
  intro i
  rw [show (256 : Nat) = 2 ^ 8 by decide, ← Nat.pow_mul, Nat.testBit_xor, Nat.testBit_mod_two_pow, Nat.testBit_mod_two_pow, Nat.testBit_div_two_pow, Nat.testBit_div_two_pow, Nat.testBit_xor, Nat.testBit_two_pow]
  by_cases hi : i < 8
  · by_cases hj : d / 8 = j
    · rw [if_pos hj, Nat.testBit_two_pow]
      have e : decide (d = i + 8 * j) = decide (d % 8 = i) := by
        apply decide_eq_decide.2
        omega
      simp [hi, e]
    · rw [if_neg hj, Nat.zero_testBit]
      have e : ¬ d = i + 8 * j := by omega
      simp [hi, e]
  · by_cases hj : d / 8 = j
    · rw [if_pos hj, Nat.testBit_two_pow]
      have e : ¬ d % 8 = i := by omega
      simp [hi, e]
    · rw [if_neg hj, Nat.zero_testBit]
      simp [hi]
theorem add_is_xor {n d : Nat} (h : n < 2 ^ d) : n + 2 ^ d = n ^^^ 2 ^ d := by
  apply Nat.eq_of_testBit_eq
  intro i
  rw [Nat.testBit_xor, Nat.testBit_two_pow, Nat.add_comm]
  by_cases hi : d = i
  · subst hi
    rw [Nat.testBit_two_pow_add_eq, Nat.testBit_lt_two_pow h]
    simp
  · rcases Nat.lt_or_ge i d with hlt | hge
    · rw [Nat.testBit_two_pow_add_gt hlt]
      simp [hi]
    · have hlt : d < i := by omega
      have h2 : 2 ^ d + n < 2 ^ i := by
        have : 2 ^ (d + 1) ≤ 2 ^ i := Nat.pow_le_pow_right (by decide) hlt
        rw [Nat.pow_succ] at this
        omega
      have h3 : n < 2 ^ i := by omega
      rw [Nat.testBit_lt_two_pow h2, Nat.testBit_lt_two_pow h3]
      simp [hi]
theorem xorL_len {xs : List Nat} {n m : Nat} (h : xs.length = m) : (xorL xs (errB n m)).length = m := by
  unfold xorL; rw [List.length_zipWith, errB_len, h, Nat.min_self]
theorem xorL_get {xs : List Nat} {n m i : Nat} (h : xs.length = m) (hi : i < m) : (xorL xs (errB n m))[i]? = some (xs.getD i 0 ^^^ (n / 256 ^ i % 256)) := by
  unfold xorL
  rw [List.getElem?_zipWith, errB_get m n i hi, List.getElem?_eq_getElem (by omega)]
  simp [List.getD_eq_getElem?_getD, List.getElem?_eq_getElem (show i < xs.length by omega)]
theorem xorL_flip {xs : List Nat} {n m d : Nat} (h : xs.length = m) (hn : n < 2 ^ d) (hd : d / 8 < m) :
    xorL xs (errB (n + 2 ^ d) m) = (xorL xs (errB n m)).set (d / 8) ((xorL xs (errB n m)).getD (d / 8) 0 ^^^ 2 ^ (d % 8)) := by
  rw [add_is_xor hn]
  apply List.ext_getElem?
  intro i
  by_cases hi : i < m
  · rw [xorL_get h hi, byte_flip, List.getElem?_set, xorL_len h]
    by_cases hj : d / 8 = i
    · subst hj
      rw [if_pos rfl, if_pos rfl, if_pos hd, List.getD_eq_getElem?_getD (l := xorL xs (errB n m)), xorL_get h hd, Option.getD_some, Nat.xor_assoc]
    · rw [if_neg hj, if_neg hj, xorL_get h hi, Nat.xor_zero]
  · rw [List.getElem?_eq_none (by rw [xorL_len h]; omega), List.getElem?_eq_none (by rw [List.length_set, xorL_len h]; omega)]
theorem xorL_zero {xs : List Nat} {m : Nat} (h : xs.length = m) : xorL xs (errB 0 m) = xs := by
  apply List.ext_getElem?
  intro i
  by_cases hi : i < m
  · rw [xorL_get h hi, Nat.zero_div, Nat.zero_mod, Nat.xor_zero, List.getElem?_eq_getElem (by omega)]
    simp [List.getD_eq_getElem?_getD, List.getElem?_eq_getElem (show i < xs.length by omega)]
  · rw [List.getElem?_eq_none (by rw [xorL_len h]; omega), List.getElem?_eq_none (by omega)]
theorem xorL_byte {xs : List Nat} {n m : Nat} (h : xs.length = m) (hx : ∀ x ∈ xs, x < 256) : ∀ x ∈ xorL xs (errB n m), x < 256 := by
  intro x hm
  obtain ⟨i, hi, rfl⟩ := List.getElem_of_mem hm
  have hi2 : i < m := by rw [xorL_len h] at hi; exact hi
  have e := xorL_get (n := n) h hi2
  rw [List.getElem?_eq_getElem hi] at e
  rw [Option.some.inj e]
  have h1 : xs.getD i 0 < 256 := byte_at hx i
  exact Nat.xor_lt_two_pow (n := 8) h1 (Nat.mod_lt _ (by decide))
/-- A sector with one bit turned. -/
def flipB (B : List Nat) (t : Nat) : List Nat := B.set (t / 8) (B.getD (t / 8) 0 ^^^ 2 ^ (t % 8))
theorem flip_len (B : List Nat) (t : Nat) : (flipB B t).length = B.length := by simp [flipB]
theorem flip_xor {B : List Nat} (h : B.length = 64) {t : Nat} (ht : t < 512) : flipB B t = xorL B (errB (2 ^ t * 1) 64) := by
  have := xorL_flip (xs := B) (n := 0) (m := 64) (d := t) h (Nat.pow_pos (by decide)) (by omega)
  rw [xorL_zero h, Nat.zero_add] at this
  rw [Nat.mul_one, this]
  rfl
theorem flip_byte {B : List Nat} (h : B.length = 64) (hb : ∀ x ∈ B, x < 256) {t : Nat} (ht : t < 512) : ∀ x ∈ flipB B t, x < 256 := by
  rw [flip_xor h ht]; exact xorL_byte h hb
theorem pow_lt8 {t m : Nat} (ht : t < 8 * m) : 2 ^ t * 1 < 256 ^ m := by
  rw [Nat.mul_one, show (256 : Nat) = 2 ^ 8 by decide, ← Nat.pow_mul]
  exact Nat.pow_lt_pow_right (by decide) ht
/-- A sector of which one bit is turned is not right. -/
theorem flip_wrong {n : Nat} {xs : List Nat} (hl : xs.length ≤ 48) (hx : ∀ x ∈ xs, x < 256) {t : Nat} (ht : t < 512) (i : Nat) : ¬ RightS (flipB (laySec n xs) t) i := by
  rintro ⟨_, _, h8, he⟩
  have h64 := lay_len (n := n) hl
  have hby := flip_byte h64 (lay_byte hl hx) ht
  obtain ⟨B', hB'⟩ : ∃ B', flipB (laySec n xs) t = B' := ⟨_, rfl⟩
  have hl' : B'.length = 64 := by rw [← hB', flip_len, h64]
  rw [hB'] at h8 he hby
  have hvl : (secV B').length ≤ 48 := by unfold secV; rw [List.length_take]; omega
  have hvx : ∀ x ∈ secV B', x < 256 := fun x hx => hby x (List.mem_of_mem_drop (List.mem_of_mem_take hx))
  refine burst_found (xs := front60 n xs) (ys := front60 (secN B') (secV B')) (v := sumOf (front60 (secN B') (secV B'))) (d := t) (b := 1) (front_byte hl hx) (front_byte hvl hvx) (by decide) (by decide) ?_ ?_ rfl
  · rw [front_len hl]; exact pow_lt8 (by omega)
  · rw [front_len hl]
    show laySec (secN B') (secV B') = xorL (laySec n xs) (errB (2 ^ t * 1) 64)
    rw [← he, ← hB', flip_xor h64 ht]
theorem numC_wrong {i : Nat} {bs : List Nat} (h : ¬ RightS bs i) : numC i (some bs) = 0 := by simp [numC, h]
theorem openC_skip0 {c0 c1 : Option (List Nat)} (h : numC 0 c0 = 0) : openC c0 c1 = openC none c1 := by
  unfold openC
  rw [step_same (st := (0, [])) (i := 0) (o := c0) (by omega)]
  rfl
theorem openC_skip1 {c0 c1 : Option (List Nat)} (h : numC 1 c1 = 0) : openC c0 c1 = openC c0 none := by
  unfold openC
  rw [step_same (i := 1) (o := c1) (by omega)]
  rfl
/-- The sector of a Save: none ahead of the first one. -/
def secAt (n : Nat) (xs : List Nat) : Option (List Nat) := if n = 0 then none else some (laySec n xs)
/-- The two sectors behind n Saves: the last one's, and that of the one ahead of it. -/
structure TwoSt (S : List Sec) (a : Int) (n : Nat) (now was : List Nat) : Prop where
  one : curOf S a ((n % 2 : Nat) : Int) = secAt n now
  two : curOf S a (((n + 1) % 2 : Nat) : Int) = secAt (n - 1) was
  e0 : n = 0 → now = []
  e1 : n ≤ 1 → was = []
  l1 : now.length ≤ 48
  l2 : was.length ≤ 48
  b1 : ∀ x ∈ now, x < 256
  b2 : ∀ x ∈ was, x < 256
  hn : n < 18446744073709551616
theorem numC_at {n : Nat} {xs : List Nat} (i : Nat) (hn : n < 18446744073709551616) : numC i (secAt n xs) ≤ n := by
  unfold secAt
  split
  · simp [numC]
  · unfold numC
    simp only
    split
    · rw [lay_secN hn]; exact Nat.le_refl _
    · omega
/-- One sector alone. -/
theorem open_one {n : Nat} {xs : List Nat} (hn : n < 18446744073709551616) (hl : xs.length ≤ 48) (h0 : n = 0 → xs = []) (c0 c1 : Option (List Nat)) (hc : (n % 2 = 0 ∧ c0 = secAt n xs ∧ (n ≠ 0 → numC 1 c1 < n) ∧ (n = 0 → numC 1 c1 = 0)) ∨ (n % 2 = 1 ∧ c1 = secAt n xs ∧ numC 0 c0 < n)) : openC c0 c1 = (n, xs) := by
  rcases hc with ⟨h2, rfl, h3, h4⟩ | ⟨h2, rfl, h3⟩
  · by_cases hz : n = 0
    · subst hz
      rw [h0 rfl, openC_skip1 (h4 rfl)]
      rfl
    · obtain ⟨m, rfl⟩ : ∃ m, n = m + 1 := ⟨n - 1, by omega⟩
      have := open_new (c0 := none) (c1 := c1) (n := m) (xs := xs) hn hl (by simp [numC]) (by have := h3 hz; omega)
      rw [if_pos h2, if_neg (by omega)] at this
      rw [secAt, if_neg hz]
      exact this
  · obtain ⟨m, rfl⟩ : ∃ m, n = m + 1 := ⟨n - 1, by omega⟩
    have := open_new (c0 := c0) (c1 := none) (n := m) (xs := xs) hn hl (by omega) (by simp [numC])
    rw [if_neg (by omega), if_pos h2] at this
    rw [secAt, if_neg (by omega)]
    exact this
theorem TwoSt.open {S : List Sec} {a : Int} {n : Nat} {now was : List Nat} (h : TwoSt S a n now was) : openS S a = (n, now) := by
  rw [openS_C]
  have hlt := numC_at (n := n - 1) (xs := was) 1 (by have := h.hn; omega)
  have hlt0 := numC_at (n := n - 1) (xs := was) 0 (by have := h.hn; omega)
  have e1 := h.one
  have e2 := h.two
  refine open_one h.hn h.l1 h.e0 _ _ ?_
  rcases Nat.mod_two_eq_zero_or_one n with hm | hm
  · rw [show (n + 1) % 2 = 1 by omega] at e2
    rw [hm] at e1
    refine .inl ⟨hm, by simpa using e1, fun hz => ?_, fun hz => ?_⟩
    · have : curOf S a 1 = secAt (n - 1) was := by simpa using e2
      rw [this]; omega
    · have : curOf S a 1 = secAt (n - 1) was := by simpa using e2
      rw [this]; omega
  · rw [show (n + 1) % 2 = 0 by omega] at e2
    rw [hm] at e1
    refine .inr ⟨hm, by simpa using e1, ?_⟩
    have : curOf S a 0 = secAt (n - 1) was := by simpa using e2
    rw [this]; omega
theorem TwoSt.save {S : List Sec} {a : Int} {n : Nat} {now was xs : List Nat} (h : TwoSt S a n now was) (hs : S.Pairwise Sec.before) (hn : n + 1 < 18446744073709551616) (hl : xs.length ≤ 48) (hx : ∀ x ∈ xs, x < 256) : TwoSt (sy a (wr a (((n + 1) % 2 : Nat) : Int) (laySec (n + 1) xs) S)) a (n + 1) xs now := by
  refine ⟨?_, ?_, fun h0 => by omega, fun h1 => h.e0 (by omega), hl, h.l1, hx, h.b1, hn⟩
  · rw [cur_saved hs, if_pos rfl, secAt, if_neg (by omega)]
  · rw [cur_saved hs, if_neg (by omega), show (n + 1 + 1) % 2 = n % 2 by omega, Nat.add_sub_cancel]
    exact h.one
/-- A bit of one of both that is turned. -/
theorem TwoSt.flip {S : List Sec} {a : Int} {n : Nat} {now was B : List Nat} (h : TwoSt S a n now was) (hs : S.Pairwise Sec.before) {j : Nat} (hj : j < 2) (hc : curOf S a (j : Int) = some B) {t : Nat} (ht : t < 512) : (openS (wr a (j : Int) (flipB B t) S) a).2 = now ∨ (openS (wr a (j : Int) (flipB B t) S) a).2 = was := by
  have hcur : ∀ i : Nat, curOf (wr a (j : Int) (flipB B t) S) a (i : Int) = if j = i then some (flipB B t) else curOf S a (i : Int) := fun i => by
    rw [cur_wr hs]
    by_cases he : j = i
    · rw [if_pos ⟨rfl, by omega⟩, if_pos he]
    · rw [if_neg (fun hh => he (by omega)), if_neg he]
  have c0 := hcur 0
  have c1 := hcur 1
  simp only [Int.natCast_zero, Int.natCast_one] at c0 c1
  have hn := h.hn
  -- which of both it is
  have hwr : ∀ (m : Nat) (ys : List Nat), ys.length ≤ 48 → (∀ x ∈ ys, x < 256) → some B = secAt m ys → ∀ i, numC i (some (flipB B t)) = 0 := fun m ys hl hb he i => by
    unfold secAt at he
    split at he
    · cases he
    · cases he
      exact numC_wrong (flip_wrong hl hb ht i)
  by_cases hjn : j = n % 2
  · -- the last one's
    have e1 : some B = secAt n now := by rw [← hc, hjn]; exact h.one
    have hz := hwr n now h.l1 h.b1 e1
    right
    have ho : openS (wr a (j : Int) (flipB B t) S) a = (n - 1, was) := by
      rw [openS_C, c0, c1]
      have e2 := h.two
      refine open_one (by omega) h.l2 (fun h0 => h.e1 (by omega)) _ _ ?_
      have hn0 : n ≠ 0 := fun e => by subst e; simp [secAt] at e1
      rcases Nat.mod_two_eq_zero_or_one n with hm | hm
      · have hj0 : j = 0 := by omega
        rw [show (n + 1) % 2 = 1 by omega] at e2
        subst hj0
        refine .inr ⟨by omega, ?_, ?_⟩
        · rw [if_neg (by omega)]; simpa using e2
        · rw [if_pos rfl, hz 0]; omega
      · have hj1 : j = 1 := by omega
        rw [show (n + 1) % 2 = 0 by omega] at e2
        subst hj1
        refine .inl ⟨by omega, ?_, fun h0 => ?_, fun h0 => ?_⟩
        · rw [if_neg (by omega)]; simpa using e2
        · rw [if_pos rfl, hz 1]; omega
        · rw [if_pos rfl, hz 1]
    rw [ho]
  · left
    have hj2 : j = (n + 1) % 2 := by omega
    have e1 : some B = secAt (n - 1) was := by rw [← hc, hj2]; exact h.two
    have hz := hwr (n - 1) was h.l2 h.b2 e1
    have e2 := h.one
    have ho : openS (wr a (j : Int) (flipB B t) S) a = (n, now) := by
      rw [openS_C, c0, c1]
      refine open_one hn h.l1 h.e0 _ _ ?_
      rcases Nat.mod_two_eq_zero_or_one n with hm | hm
      · have hj1 : j = 1 := by omega
        rw [hm] at e2
        subst hj1
        refine .inl ⟨hm, ?_, fun h0 => ?_, fun h0 => ?_⟩
        · rw [if_neg (by omega)]; simpa using e2
        · rw [if_pos rfl, hz 1]; omega
        · rw [if_pos rfl, hz 1]
      · have hj0 : j = 0 := by omega
        rw [hm] at e2
        subst hj0
        refine .inr ⟨hm, ?_, ?_⟩
        · rw [if_neg (by omega)]; simpa using e2
        · rw [if_pos rfl, hz 0]; omega
    rw [ho]
theorem TwoSt.new (a : Int) : TwoSt [] a 0 [] [] := ⟨rfl, rfl, fun _ => rfl, fun _ => rfl, by simp, by simp, fun x hx => (by cases hx), fun x hx => (by cases hx), by omega⟩
end Go.Proofs.Ytpmmpdkeahmdiaa
