/- Texts that were written apart, joined. -/
import Derived.Test.YtdidcombjmbkdaaDoorRows
import Derived.WalkKit
import Derived.ProofKit
import Derived.OpenShut
import Derived.WalkSmall
import Derived.Laws.BytesArg
import Derived.Laws.AppendOwnNone
import Derived.Laws.BitsAllLaws
import Derived.Test.YtdidcombjmbkdaaDoorPkMath
import Derived.Test.YtdidcombjmbkdaaDoorFBuild
import Derived.Handy
import Derived.Carry
/- Bytes in memory: rows that are read, rows that the call has made, and what a call leaves alone. -/
namespace Go.Proofs.YtdidcombjmbkdaaDoor.Cd
open Go.RowKit
set_option maxRecDepth 100000

theorem infoByte : (Tryd.prog.info? 5).map (fun i => (i.zero, i.size, i.bytes)) = some (some (.int .u8 0), 1, 1) := by kernel_rfl
theorem lt_of_cell {w : World} {b o : Nat} {v : Value} (h : w.cell? ⟨b, o, none⟩ = some v) : b < w.heap.size := World.block_lt_of_cell? w ⟨b, o, none⟩ h

/-- A byte as a value. -/
abbrev bv (n : Nat) : Value := .int .u8 (n : Int)

/-- A row of bytes that lies in memory, in a block below N: nothing is said of who made it. -/
def Row (N : Nat) (w : World) (v : Value) (xs : List Nat) : Prop :=
  ∃ ao cap, v = .slice ao xs.length cap ∧ xs.length ≤ cap ∧ (ao = none → cap = 0) ∧ (0 < xs.length → ∃ b off, ao = some ⟨b, off, none⟩ ∧ b < N ∧ ∀ i, i < xs.length → w.cell? ⟨b, off + i, none⟩ = some (bv (xs.getD i 0)))

/-- A row of bytes that the call has made, in a block not below B. -/
def Bytes (B : Nat) (w : World) (v : Value) (xs : List Nat) : Prop := w.ownsRow B 5 1 v xs.length (xs.map bv)

/-- All that was there is as it was, but for block r. -/
structure But (r : Nat) (w w' : World) : Prop where
  os : w'.os = w.os
  tape : w'.tape = w.tape
  output : w'.output = w.output
  size : w.heap.size ≤ w'.heap.size
  block : ∀ k, k < w.heap.size → k ≠ r → w'.heap[k]? = w.heap[k]?

theorem But.refl (r : Nat) (w : World) : But r w w := ⟨rfl, rfl, rfl, Nat.le_refl _, fun _ _ _ => rfl⟩
theorem But.trans {r : Nat} {a b c : World} (h : But r a b) (k : But r b c) : But r a c :=
  ⟨k.os.trans h.os, k.tape.trans h.tape, k.output.trans h.output, Nat.le_trans h.size k.size, fun i hi hr => (k.block i (Nat.lt_of_lt_of_le hi h.size) hr).trans (h.block i hi hr)⟩
theorem But.of_below {r : Nat} {w w' : World} (h : Below w.heap.size w w') : But r w w' := ⟨h.os, h.tape, h.output, h.size, fun k hk _ => h.block k hk⟩
theorem But.below {r B : Nat} {w w' : World} (h : But r w w') (hr : B ≤ r) (hB : B ≤ w.heap.size) : Below B w w' :=
  ⟨h.os, h.tape, h.output, h.size, fun k hk => h.block k (by omega) (by omega)⟩
theorem But.setCell {r : Nat} {a w : World} (h : But r a w) (o : Nat) (u : Value) : But r a (w.setCell ⟨r, o, none⟩ u) :=
  h.trans ⟨rfl, rfl, rfl, by simp [World.setCell], fun k _ hk => Below.heap_setCell _ _ _ _ hk⟩
theorem But.drew {r : Nat} {a w : World} (h : But r a w) : But r a w.drew := ⟨h.os, h.tape, h.output, h.size, h.block⟩
theorem below_drewN {B : Nat} {a w : World} (h : Below B a w) (n : Nat) : Below B a (w.drewN n) := ⟨h.os, h.tape, h.output, h.size, h.block⟩
theorem but_drewN {B : Nat} {a w : World} (h : But B a w) (n : Nat) : But B a (w.drewN n) := ⟨h.os, h.tape, h.output, h.size, h.block⟩

theorem Bytes.nil (B : Nat) (w : World) : Bytes B w (.slice none 0 0) [] := World.ownsRow_nil _ _ _ _
theorem Bytes.but {B r : Nat} {w w' : World} {v : Value} {xs : List Nat} (h : Bytes B w v xs) (hb : But r w w') (hr : r < B) : Bytes B w' v xs := by
  obtain ⟨hl, hn | ⟨g, cap, cur, rfl, h1, hg, h2⟩⟩ := h
  · exact ⟨hl, .inl hn⟩
  · exact ⟨hl, .inr ⟨g, cap, cur, rfl, h1, (hb.block g (Array.getElem?_eq_some_iff.1 hg).1 (by omega)).trans hg, h2⟩⟩
theorem Bytes.below {B : Nat} {w w' : World} {v : Value} {xs : List Nat} (h : Bytes B w v xs) (hb : Below w.heap.size w w') : Bytes B w' v xs := by
  obtain ⟨hl, hn | ⟨g, cap, cur, rfl, h1, hg, h2⟩⟩ := h
  · exact ⟨hl, .inl hn⟩
  · exact ⟨hl, .inr ⟨g, cap, cur, rfl, h1, (hb.block g (Array.getElem?_eq_some_iff.1 hg).1).trans hg, h2⟩⟩
theorem Bytes.mono {B B' : Nat} {w : World} {v : Value} {xs : List Nat} (h : Bytes B w v xs) (hb : B' ≤ B) : Bytes B' w v xs := by
  obtain ⟨hl, hn | ⟨g, cap, cur, rfl, h1, hg, h2⟩⟩ := h
  · exact ⟨hl, .inl hn⟩
  · exact ⟨hl, .inr ⟨g, cap, cur, rfl, Nat.le_trans hb h1, hg, h2⟩⟩
theorem Row.below {N : Nat} {w w' : World} {v : Value} {xs : List Nat} (h : Row N w v xs) (hb : Below N w w') : Row N w' v xs := by
  obtain ⟨ao, cap, rfl, hcap, hno, hc⟩ := h
  refine ⟨ao, cap, rfl, hcap, hno, fun h0 => ?_⟩
  obtain ⟨b, off, rfl, hN, hd⟩ := hc h0
  exact ⟨b, off, rfl, hN, fun i hi => (hb.cell (p := ⟨b, off + i, none⟩) hN).trans (hd i hi)⟩
theorem Row.mono {N M : Nat} {w : World} {v : Value} {xs : List Nat} (h : Row N w v xs) (hN : N ≤ M) : Row M w v xs := by
  obtain ⟨ao, cap, rfl, hcap, hno, hc⟩ := h
  refine ⟨ao, cap, rfl, hcap, hno, fun h0 => ?_⟩
  obtain ⟨b, off, rfl, hb, hd⟩ := hc h0
  exact ⟨b, off, rfl, by omega, hd⟩
theorem Bytes.row {B : Nat} {w : World} {v : Value} {xs : List Nat} (h : Bytes B w v xs) : Row w.heap.size w v xs := by
  obtain ⟨hl, hn | ⟨g, cap, cur, rfl, hb, hg, h1, h2, h3, h4⟩⟩ := h
  · obtain ⟨rfl, h0⟩ := hn
    have e : xs = [] := List.length_eq_zero_iff.1 h0
    subst e
    exact ⟨none, 0, rfl, Nat.le_refl _, fun _ => rfl, fun h => by simp at h⟩
  · refine ⟨some ⟨g, 0, none⟩, cap, rfl, h1, (fun h => by cases h), fun h0 => ⟨g, 0, rfl, (Array.getElem?_eq_some_iff.1 hg).1, fun i hi => ?_⟩⟩
    have hc : cur[i]? = some (bv (xs.getD i 0)) := by
      have e : (cur.toList.take (xs.length * 1))[i]? = (xs.map bv)[i]? := by rw [h4]
      rw [List.getElem?_take, if_pos (by omega)] at e
      rw [← Array.getElem?_toList, e, List.getElem?_map, List.getElem?_eq_getElem hi]
      simp [List.getD_eq_getElem?_getD, List.getElem?_eq_getElem hi]
    simp only [World.cell?, hg, Nat.zero_add]
    simpa using hc
theorem Row.shape {N : Nat} {w : World} {v : Value} {xs : List Nat} (h : Row N w v xs) : ∃ ao cap, v = .slice ao xs.length cap ∧ xs.length ≤ cap := by
  obtain ⟨ao, cap, rfl, hcap, hno, hc⟩ := h; exact ⟨ao, cap, rfl, hcap⟩

/-- Bytes as a string. -/
def strB (xs : List Nat) : ByteArray := strOfNums (xs.map Int.ofNat)
theorem Row.str {N : Nat} {w : World} {v : Value} {xs : List Nat} (h : Row N w v xs) : (convert 32 9 v).run Tryd.prog w = .ok (.string (strB xs)) w := by
  obtain ⟨ao, cap, rfl, hcap, hno, hc⟩ := h
  by_cases h0 : 0 < xs.length
  · obtain ⟨b, off, rfl, hN, hd⟩ := hc h0
    refine run_convert_bytes_arg w 32 5 Tryd.underlying32 Tryd.underlying5 b off xs.length cap (xs.map Int.ofNat) (by simp) (fun i hi => ?_) 9 Tryd.underlying9
    rw [hd i hi]
    simp [List.getD_eq_getElem?_getD, List.getElem?_eq_getElem hi]
  · obtain rfl : xs = [] := List.length_eq_zero_iff.1 (by omega)
    cases ao with
    | none => exact run_convert_bytes_nil w 32 5 Tryd.underlying32 Tryd.underlying5 0 cap 9 Tryd.underlying9
    | some a =>
      have hl : (loadCells a 0).run Tryd.prog w = .ok (([] : List Int).map (Value.int .u8)).toArray w := run_loadCells_list (P := Tryd.prog) w a [] (fun j v hj => by simp at hj)
      show (convert 32 9 (.slice (some a) 0 cap)).run Tryd.prog w = _
      rw [run_convert_bytes_string w 32 9 5 _ 0 cap Tryd.underlying32 Tryd.underlying5 Tryd.underlying9, run_bytesToString w _ 0 cap [] hl]
      rfl

/-- 'append(p, q...)' where the call has made p and q is any row. -/
theorem append_row {w : World} {ops : Array Oper} {rest : List Oper} {o : Oper} {a : Act} {Q : Exit → Act → World → Prop} (hgd : Region.wanted o (yielded ops a.tmps) = true) (s x : Operand)
    (ho : o.op = .call { callee := .builtin .append, args := #[s, x], argTypes := #[32, 32] }) (B N : Nat) (v v2 : Value) (xs ys : List Nat)
    (hs : a.eval s = v) (hown : Bytes B w v xs) (hx : a.eval x = v2) (hsrc : Row N w v2 ys) (hl : xs.length + ys.length ≤ 140737488355328) (hB : B ≤ w.heap.size)
    (h : ∀ v' w', Bytes B w' v' (xs ++ ys) → Below B w w' → w.grownBy w' v.ownBlock → wpList Tryd.prog ops Q rest (a.put o.dst v') w') : wpList Tryd.prog ops Q (o :: rest) a w := by
  obtain ⟨i0, hi, hz0, hz1, hz2⟩ := info_parts infoByte
  refine wpList_step fun K hK => ?_
  rw [if_pos hgd]
  obtain ⟨ao, cap, rfl, hcap, hno, hc⟩ := hsrc
  cases ao with
  | none =>
    have e : ys = [] := by
      cases ys with
      | nil => rfl
      | cons y r => obtain ⟨b, off, e, _⟩ := hc (by simp); cases e
    subst e
    obtain rfl := hno rfl
    have hrun := run_append_owned_none (P := Tryd.prog) (w := w) B 32 o.type 5 i0 1 Tryd.underlying32 hi v xs.length (xs.map bv) hown
    unfold Oper.wp
    simp [execOp, ho, resolve, invoke, builtin, hs, hx, hrun, Result.andThen]
    exact hK _ _ (h _ _ (by simpa using hown) (Below.refl _ _) ⟨rfl, rfl, rfl, Nat.le_refl _, fun _ _ _ => rfl⟩)
  | some ad =>
    refine wp_append_own w s x 32 ho B 5 i0 (.int .u8 0) 1 1 Tryd.underlying32 hi hz0 hz1 hz2 rfl (by decide) v xs.length _ hs hown ad ys.length cap (ys.map bv) hx (by simp) ?_ ?_ ?_ ?_ hB ?_
    · intro j u hj
      have hjl : j < ys.length := by
        have := (List.getElem?_eq_some_iff.1 hj).1
        simpa using this
      obtain ⟨b, off, e2, _, hc2⟩ := hc (by omega)
      obtain rfl := Option.some.inj e2
      have := hc2 j hjl
      have hadd : (⟨b, off, none⟩ : Addr).add j = ⟨b, off + j, none⟩ := by unfold Addr.add; split <;> simp_all
      rw [hadd, this]
      rw [List.getElem?_map, List.getElem?_eq_getElem hjl] at hj
      simp at hj
      rw [← hj]
      simp [List.getD_eq_getElem?_getD, List.getElem?_eq_getElem hjl]
    · intro u hu
      obtain ⟨z, _, rfl⟩ := List.mem_map.1 hu
      rfl
    · unfold maxLen; omega
    · omega
    · intro v' w' h5 h6 _
      refine hK _ _ (h v' w' ?_ ((Below.refl B w).grown h6 hB (fun k hk => (World.ownsRow.lt hown k hk).1)) h6)
      unfold Bytes
      simpa using h5
end Go.Proofs.YtdidcombjmbkdaaDoor.Cd

/- Numbers written in bytes, and read: plain mathematics. -/
namespace Go.Proofs.YtdidcombjmbkdaaDoor.Cd

/-- The writing of a number. -/
def uw (n : Nat) : List Nat := if n < 128 then [n] else (n % 128 + 128) :: uw (n / 128)
termination_by n

theorem uw_lt {n : Nat} (h : n < 128) : uw n = [n] := by rw [uw, if_pos h]
theorem uw_ge {n : Nat} (h : 128 ≤ n) : uw n = (n % 128 + 128) :: uw (n / 128) := by rw [uw, if_neg (by omega)]
theorem uw_len : ∀ (k n : Nat), n < 128 ^ k → 0 < k → 0 < (uw n).length ∧ (uw n).length ≤ k
  | 0, _, _, h => by omega
  | 1, n, h, _ => by rw [uw_lt (by simpa using h)]; simp
  | k + 2, n, h, _ => by
    by_cases h1 : n < 128
    · rw [uw_lt h1]; simp
    · rw [uw_ge (by omega)]
      have := uw_len (k + 1) (n / 128) (by rw [Nat.div_lt_iff_lt_mul (by decide)]; rw [Nat.pow_succ] at h; exact h) (by omega)
      simp only [List.length_cons]; omega
theorem uw_len10 {n : Nat} (h : n < 18446744073709551616) : 0 < (uw n).length ∧ (uw n).length ≤ 10 := uw_len 10 n (Nat.lt_of_lt_of_le h (by decide)) (by decide)
theorem uw_byte : ∀ (n : Nat), ∀ x ∈ uw n, x < 256 := by
  intro n
  induction n using Nat.strongRecOn with
  | _ n ih =>
    intro x hx
    by_cases h : n < 128
    · rw [uw_lt h] at hx; simp at hx; omega
    · rw [uw_ge (by omega)] at hx
      rcases List.mem_cons.1 hx with rfl | hx
      · omega
      · exact ih (n / 128) (by omega) x hx

/-- What bytes say as a number from place i on, where the places ahead say n: the number, how many bytes, what is amiss. -/
def num : List Nat → Nat → Nat → Nat × Nat × Nat
  | [], _, _ => (0, 0, 20)
  | c :: r, i, n =>
    if i = 9 ∧ 1 < c then (0, 0, 21) else if 0 < i ∧ c = 0 then (0, 0, 21)
    else if c < 128 then (n + c * 128 ^ i, i + 1, 0) else num r (i + 1) (n + (c - 128) * 128 ^ i)

/-- The same with a bound. -/
def front (xs : List Nat) (most : Nat) : Nat × Nat × Nat :=
  if (num xs 0 0).2.2 = 0 ∧ most < (num xs 0 0).1 then (0, 0, 22) else num xs 0 0

theorem num_form9 {c : Nat} {r : List Nat} {n : Nat} (h : 1 < c) : num (c :: r) 9 n = (0, 0, 21) := by rw [num, if_pos ⟨rfl, h⟩]
theorem num_form0 {r : List Nat} {i n : Nat} (h : 0 < i) : num (0 :: r) i n = (0, 0, 21) := by rw [num, if_neg (by omega), if_pos ⟨h, rfl⟩]
theorem num_last {c : Nat} {r : List Nat} {i n : Nat} (h : c < 128) (h9 : i = 9 → c ≤ 1) (h0 : 0 < i → c ≠ 0) : num (c :: r) i n = (n + c * 128 ^ i, i + 1, 0) := by
  rw [num, if_neg (by omega), if_neg (by omega), if_pos h]
theorem num_more {c : Nat} {r : List Nat} {i n : Nat} (h : 128 ≤ c) (h9 : i ≠ 9) : num (c :: r) i n = num r (i + 1) (n + (c - 128) * 128 ^ i) := by
  rw [num, if_neg (by omega), if_neg (by omega), if_neg (by omega)]

/-- What a reading tells: the size fits, the number is within 64 bits, a failing tells zeros. -/
theorem num_facts : ∀ (xs : List Nat) (i n : Nat), i ≤ 9 → n < 128 ^ i → (∀ x ∈ xs, x < 256) →
    ((num xs i n).2.2 = 0 → i < (num xs i n).2.1 ∧ (num xs i n).2.1 ≤ i + xs.length ∧ (num xs i n).2.1 ≤ 10 ∧ (num xs i n).1 < 18446744073709551616) ∧
    ((num xs i n).2.2 ≠ 0 → (num xs i n).1 = 0 ∧ (num xs i n).2.1 = 0 ∧ ((num xs i n).2.2 = 20 ∨ (num xs i n).2.2 = 21))
  | [], i, n, _, _, _ => by simp [num]
  | c :: r, i, n, hi, hn, hx => by
    rw [num]
    split
    · simp
    split
    · simp
    split
    · rename_i h1 h2 h3
      have hp : n + c * 128 ^ i < 18446744073709551616 := by
        by_cases h9 : i = 9
        · subst h9
          have hc : c ≤ 1 := by omega
          have : c * 128 ^ 9 ≤ 1 * 128 ^ 9 := Nat.mul_le_mul_right _ hc
          have e : (128 : Nat) ^ 9 = 9223372036854775808 := by decide
          omega
        · have : (c + 1) * 128 ^ i ≤ 128 * 128 ^ i := Nat.mul_le_mul_right _ (by omega)
          rw [Nat.add_mul] at this
          have e : 128 * 128 ^ i = 128 ^ (i + 1) := by rw [Nat.pow_succ, Nat.mul_comm]
          have e2 : (128 : Nat) ^ (i + 1) ≤ 128 ^ 9 := Nat.pow_le_pow_right (by decide) (by omega)
          have e3 : (128 : Nat) ^ 9 = 9223372036854775808 := by decide
          omega
      simp only [List.length_cons]
      exact ⟨fun _ => ⟨by omega, by omega, by omega, hp⟩, fun h => absurd rfl h⟩
    · rename_i h1 h2 h3
      have hc : c < 256 := hx c (by simp)
      have hi9 : i ≠ 9 := by omega
      have := num_facts r (i + 1) (n + (c - 128) * 128 ^ i) (by omega) (by
        have : (c - 128 + 1) * 128 ^ i ≤ 128 * 128 ^ i := Nat.mul_le_mul_right _ (by omega)
        rw [Nat.add_mul] at this
        rw [Nat.pow_succ, Nat.mul_comm (128 ^ i)]
        omega) (fun x h => hx x (by simp [h]))
      simp only [List.length_cons]
      exact ⟨fun h => by have := this.1 h; omega, this.2⟩

theorem front_facts (xs : List Nat) (most : Nat) (hx : ∀ x ∈ xs, x < 256) :
    ((front xs most).2.2 = 0 → 0 < (front xs most).2.1 ∧ (front xs most).2.1 ≤ xs.length ∧ (front xs most).2.1 ≤ 10 ∧ (front xs most).1 < 18446744073709551616 ∧ (front xs most).1 ≤ most ∧ front xs most = num xs 0 0) ∧
    ((front xs most).2.2 ≠ 0 → (front xs most).1 = 0 ∧ (front xs most).2.1 = 0 ∧ (front xs most).2.2 < 100) := by
  have h := num_facts xs 0 0 (by decide) (by decide) hx
  unfold front
  split
  · simp
  · rename_i h2
    refine ⟨fun h3 => ?_, fun h3 => ?_⟩
    · have := h.1 h3; exact ⟨by omega, by omega, by omega, by omega, by omega, rfl⟩
    · have := h.2 h3; exact ⟨by omega, by omega, by omega⟩

/-- What was written is read as it was, whatever stands behind. -/
theorem num_uw : ∀ (k m i n : Nat) (r : List Nat), i + k = 10 → m < 128 ^ k → (m * 128 ^ i < 18446744073709551616) → (0 < i → m ≠ 0) → num (uw m ++ r) i n = (n + m * 128 ^ i, i + (uw m).length, 0)
  | 0, m, i, n, r, hk, hm, hb, h0 => by
    have : m = 0 := by simpa using hm
    have := h0 (by omega); omega
  | k + 1, m, i, n, r, hk, hm, hb, h0 => by
    by_cases h : m < 128
    · rw [uw_lt h]
      simp only [List.cons_append, List.nil_append, List.length_singleton]
      refine num_last h (fun h9 => ?_) (fun hi => h0 hi)
      subst h9
      have e : (128 : Nat) ^ 9 = 9223372036854775808 := by decide
      rw [e] at hb; omega
    · have hi9 : i ≠ 9 := by
        intro h9; subst h9
        have e : (128 : Nat) ^ 9 = 9223372036854775808 := by decide
        rw [e] at hb; omega
      rw [uw_ge (by omega), List.cons_append, num_more (by omega) hi9]
      have e1 : m / 128 * 128 ^ (i + 1) + m % 128 * 128 ^ i = m * 128 ^ i := by
        rw [Nat.pow_succ, Nat.mul_comm (128 ^ i) 128, ← Nat.mul_assoc, ← Nat.add_mul]
        congr 1; omega
      rw [num_uw k (m / 128) (i + 1) _ r (by omega) (by rw [Nat.div_lt_iff_lt_mul (by decide)]; rw [Nat.pow_succ] at hm; exact hm) (by omega) (fun _ => by omega)]
      simp only [List.length_cons, Nat.add_sub_cancel]
      refine Prod.ext ?_ (Prod.ext ?_ rfl)
      · show n + m % 128 * 128 ^ i + m / 128 * 128 ^ (i + 1) = n + m * 128 ^ i
        omega
      · show i + 1 + (uw (m / 128)).length = i + ((uw (m / 128)).length + 1)
        omega
theorem num_write {m : Nat} (h : m < 18446744073709551616) (r : List Nat) : num (uw m ++ r) 0 0 = (m, (uw m).length, 0) := by
  have := num_uw 10 m 0 0 r rfl (Nat.lt_of_lt_of_le h (by decide)) (by simpa using h) (fun h => absurd h (by decide))
  simpa using this

/-- What was read is written as the same bytes. -/
theorem num_back : ∀ (xs : List Nat) (i n : Nat), n < 128 ^ i → (∀ x ∈ xs, x < 256) → (num xs i n).2.2 = 0 →
    ∃ m, (num xs i n).1 = n + m * 128 ^ i ∧ xs.take ((num xs i n).2.1 - i) = uw m ∧ (0 < i → m ≠ 0)
  | [], i, n, _, _, h => by simp [num] at h
  | c :: r, i, n, hn, hx, h => by
    rw [num] at h ⊢
    split at h
    · simp at h
    split at h
    · simp at h
    split at h
    · rename_i h1 h2 h3
      rw [if_neg h1, if_neg h2, if_pos h3]
      refine ⟨c, rfl, ?_, fun h0 => by omega⟩
      show List.take (i + 1 - i) (c :: r) = uw c
      rw [uw_lt h3, show i + 1 - i = 1 by omega]; rfl
    · rename_i h1 h2 h3
      rw [if_neg h1, if_neg h2, if_neg h3]
      have hc : c < 256 := hx c (by simp)
      have hn' : n + (c - 128) * 128 ^ i < 128 ^ (i + 1) := by
        have : (c - 128 + 1) * 128 ^ i ≤ 128 * 128 ^ i := Nat.mul_le_mul_right _ (by omega)
        rw [Nat.add_mul] at this
        rw [Nat.pow_succ, Nat.mul_comm (128 ^ i)]
        omega
      have hr : ∀ x ∈ r, x < 256 := fun x h => hx x (by simp [h])
      obtain ⟨m, e1, e2, e3⟩ := num_back r (i + 1) (n + (c - 128) * 128 ^ i) hn' hr h
      have hm := e3 (by omega)
      refine ⟨m * 128 + (c - 128), ?_, ?_, fun _ => by omega⟩
      · rw [e1, Nat.pow_succ, Nat.mul_comm (128 ^ i) 128, ← Nat.mul_assoc, Nat.add_assoc, ← Nat.add_mul, Nat.add_comm (c - 128)]
      · generalize num r (i + 1) (n + (c - 128) * 128 ^ i) = z at *
        have hz : i + 1 < z.2.1 := by
          rcases Nat.lt_or_ge (i + 1) z.2.1 with h | h
          · exact h
          · rw [show z.2.1 - (i + 1) = 0 by omega, List.take_zero] at e2
            have := congrArg List.length e2
            have h3 : 0 < (uw m).length := by unfold uw; split <;> simp
            simp only [List.length_nil] at this
            omega
        rw [show z.2.1 - i = (z.2.1 - (i + 1)) + 1 by omega, List.take_succ_cons, e2, uw_ge (n := m * 128 + (c - 128)) (by omega)]
        rw [show (m * 128 + (c - 128)) % 128 + 128 = c by omega, show (m * 128 + (c - 128)) / 128 = m by omega]
theorem num_again {xs : List Nat} (hx : ∀ x ∈ xs, x < 256) (h : (num xs 0 0).2.2 = 0) : uw (num xs 0 0).1 = xs.take (num xs 0 0).2.1 := by
  obtain ⟨m, e1, e2, _⟩ := num_back xs 0 0 (by decide) hx h
  rw [e1]; simpa using e2.symm
end Go.Proofs.YtdidcombjmbkdaaDoor.Cd

/- How states are compared. No program is named here. -/
namespace Go.Proofs.YtdidcombjmbkdaaDoor.Pk

def cmpI (a b : Int) : Int := if a < b then -1 else if b < a then 1 else 0
def orI : List Int → Int
  | [] => 0
  | c :: r => if c ≠ 0 then c else orI r
def cmpA (x y : RArc) : Int := orI [cmpI x.label y.label, cmpI x.out y.out, cmpI x.to y.to]
def cmpL : List RArc → List RArc → Int
  | [], [] => 0
  | [], _ :: _ => -1
  | _ :: _, [] => 1
  | x :: xs, y :: ys => if cmpA x y ≠ 0 then cmpA x y else cmpL xs ys
def headS (s : RSt) : Int := 2 * s.arcs.length + (if s.final then 1 else 0)
def cmpH (s t : RSt) : Int := orI [cmpI (headS s) (headS t), cmpI s.out t.out]
def cmpS (s t : RSt) : Int := if cmpH s t ≠ 0 then cmpH s t else cmpL s.arcs t.arcs
/-- A way of comparing that is an order. -/
structure Ord3 {α : Type} (c : α → α → Int) : Prop where
  eq : ∀ x y, c x y = 0 ↔ x = y
  anti : ∀ x y, c x y < 0 ↔ 0 < c y x
  tr : ∀ x y z, c x y < 0 → c y z < 0 → c x z < 0
theorem cmpI_ord : Ord3 cmpI := by
  refine ⟨fun x y => ?_, fun x y => ?_, fun x y z => ?_⟩ <;> unfold cmpI
  · repeat' split
    all_goals omega
  · repeat' split
    all_goals omega
  · repeat' split
    all_goals omega
/-- By the one, then by the other. -/
theorem Ord3.then {α β γ : Type} {c : α → α → Int} {d : β → β → Int} (hc : Ord3 c) (hd : Ord3 d) (p : γ → α) (q : γ → β) (inj : ∀ x y, p x = p y → q x = q y → x = y) : Ord3 fun x y : γ => if c (p x) (p y) ≠ 0 then c (p x) (p y) else d (q x) (q y) := by
  have c0 : ∀ x y, c x y = 0 ↔ c y x = 0 := fun x y => by rw [hc.eq, hc.eq]; exact eq_comm
  refine ⟨fun x y => ?_, fun x y => ?_, fun x y z => ?_⟩
  · split
    · rename_i h
      exact ⟨fun e => absurd e h, fun e => absurd ((hc.eq _ _).2 (congrArg p e)) h⟩
    · rename_i h
      have h' : c (p x) (p y) = 0 := Decidable.byContradiction h
      exact ⟨fun e => inj x y ((hc.eq _ _).1 h') ((hd.eq _ _).1 e), fun e => (hd.eq _ _).2 (congrArg q e)⟩
  · by_cases h : c (p x) (p y) = 0
    · rw [if_neg (fun hn => hn h), if_neg (fun hn => hn ((c0 _ _).1 h))]
      exact hd.anti _ _
    · rw [if_pos h, if_pos (fun hn => h ((c0 _ _).2 hn))]
      exact hc.anti _ _
  · by_cases h1 : c (p x) (p y) = 0
    · have e1 := (hc.eq _ _).1 h1
      rw [if_neg (fun hn => hn h1)]
      by_cases h2 : c (p y) (p z) = 0
      · have e2 := (hc.eq _ _).1 h2
        rw [if_neg (fun hn => hn h2), e1, if_neg (fun hn => hn h2)]
        exact hd.tr _ _ _
      · rw [if_pos h2, e1, if_pos h2]
        exact fun _ h => h
    · rw [if_pos h1]
      by_cases h2 : c (p y) (p z) = 0
      · have e2 := (hc.eq _ _).1 h2
        rw [if_neg (fun hn => hn h2), ← e2, if_pos h1]
        exact fun h _ => h
      · rw [if_pos h2]
        intro g1 g2
        have := hc.tr _ _ _ g1 g2
        rw [if_pos (by omega)]
        exact this
theorem orI_two (a b : Int) : orI [a, b] = if a ≠ 0 then a else if b ≠ 0 then b else 0 := rfl
theorem cmpA_ord : Ord3 cmpA := by
  have h := Ord3.then (γ := RArc) cmpI_ord (Ord3.then (γ := Int × Int) cmpI_ord cmpI_ord (·.1) (·.2) (fun x y h1 h2 => Prod.ext h1 h2)) (·.label) (fun a => (a.out, a.to)) (fun x y h1 h2 => by
    cases x; cases y
    simp only [Prod.mk.injEq] at h1 h2
    rw [h1, h2.1, h2.2])
  have e : cmpA = fun x y : RArc => if cmpI x.label y.label ≠ 0 then cmpI x.label y.label else if cmpI x.out y.out ≠ 0 then cmpI x.out y.out else cmpI x.to y.to := by
    funext x y
    unfold cmpA orI orI orI orI
    by_cases h1 : cmpI x.label y.label = 0
    · by_cases h2 : cmpI x.out y.out = 0
      · by_cases h3 : cmpI x.to y.to = 0 <;> simp [h1, h2, h3]
      · simp [h1, h2]
    · simp [h1]
  rw [e]
  exact h
theorem cmpL_eq : ∀ x y, cmpL x y = 0 ↔ x = y
  | [], [] => by simp [cmpL]
  | [], _ :: _ => by simp [cmpL]
  | _ :: _, [] => by simp [cmpL]
  | x :: xs, y :: ys => by
    rw [cmpL]
    by_cases h : cmpA x y = 0
    · rw [if_neg (fun hn => hn h), cmpL_eq xs ys, (cmpA_ord.eq _ _).1 h]
      simp
    · rw [if_pos h]
      exact ⟨fun e => absurd e h, fun e => absurd ((cmpA_ord.eq _ _).2 (List.cons.inj e).1) h⟩
theorem cmpL_anti : ∀ x y, cmpL x y < 0 ↔ 0 < cmpL y x
  | [], [] => by simp [cmpL]
  | [], _ :: _ => by simp [cmpL]
  | _ :: _, [] => by simp [cmpL]
  | x :: xs, y :: ys => by
    rw [cmpL, cmpL]
    have c0 : cmpA x y = 0 ↔ cmpA y x = 0 := by rw [cmpA_ord.eq, cmpA_ord.eq]; exact eq_comm
    by_cases h : cmpA x y = 0
    · rw [if_neg (fun hn => hn h), if_neg (fun hn => hn (c0.1 h))]
      exact cmpL_anti xs ys
    · rw [if_pos h, if_pos (fun hn => h (c0.2 hn))]
      exact cmpA_ord.anti _ _
theorem cmpL_tr : ∀ x y z, cmpL x y < 0 → cmpL y z < 0 → cmpL x z < 0
  | [], [], _, h, _ => by simp [cmpL] at h
  | [], _ :: _, [], _, h => by simp [cmpL] at h
  | [], _ :: _, _ :: _, _, _ => by simp [cmpL]
  | _ :: _, [], _, h, _ => by simp [cmpL] at h
  | _ :: _, _ :: _, [], _, h => by simp [cmpL] at h
  | x :: xs, y :: ys, z :: zs, h1, h2 => by
    rw [cmpL] at h1 h2 ⊢
    by_cases g1 : cmpA x y = 0
    · have e1 := (cmpA_ord.eq _ _).1 g1
      rw [if_neg (fun hn => hn g1)] at h1
      subst e1
      by_cases g2 : cmpA x z = 0
      · rw [if_neg (fun hn => hn g2)] at h2 ⊢
        exact cmpL_tr xs ys zs h1 h2
      · rw [if_pos g2] at h2 ⊢
        exact h2
    · rw [if_pos g1] at h1
      by_cases g2 : cmpA y z = 0
      · have e2 := (cmpA_ord.eq _ _).1 g2
        subst e2
        rw [if_pos g1]
        exact h1
      · rw [if_pos g2] at h2
        have := cmpA_ord.tr _ _ _ h1 h2
        rw [if_pos (by omega)]
        exact this
theorem cmpL_ord : Ord3 cmpL := ⟨cmpL_eq, cmpL_anti, cmpL_tr⟩
theorem cmpS_ord : Ord3 cmpS := by
  have hh : Ord3 fun x y : Int × Int => if cmpI x.1 y.1 ≠ 0 then cmpI x.1 y.1 else cmpI x.2 y.2 := Ord3.then cmpI_ord cmpI_ord (·.1) (·.2) (fun x y h1 h2 => Prod.ext h1 h2)
  have h := Ord3.then (γ := RSt) hh cmpL_ord (fun s => (headS s, s.out)) (·.arcs) (fun x y h1 h2 => by
    simp only [Prod.mk.injEq] at h1
    obtain ⟨h3, h4⟩ := h1
    unfold headS at h3
    rw [h2] at h3
    cases x with
    | mk f1 o1 a1 =>
      cases y with
      | mk f2 o2 a2 =>
        simp only at h2 h3 h4
        subst h2 h4
        cases f1 <;> cases f2 <;> simp at h3 ⊢ <;> omega)
  have e : cmpS = fun s t : RSt => if (if cmpI (headS s) (headS t) ≠ 0 then cmpI (headS s) (headS t) else cmpI s.out t.out) ≠ 0 then (if cmpI (headS s) (headS t) ≠ 0 then cmpI (headS s) (headS t) else cmpI s.out t.out) else cmpL s.arcs t.arcs := by
    funext s t
    have eh : cmpH s t = if cmpI (headS s) (headS t) ≠ 0 then cmpI (headS s) (headS t) else cmpI s.out t.out := by
      unfold cmpH orI orI orI
      by_cases h1 : cmpI (headS s) (headS t) = 0
      · by_cases h2 : cmpI s.out t.out = 0 <;> simp [h1, h2]
      · simp [h1]
    unfold cmpS
    rw [eh]
  rw [e]
  exact h
end Go.Proofs.YtdidcombjmbkdaaDoor.Pk

/- fst.Build, walked. -/
namespace Go.Proofs.YtdidcombjmbkdaaDoor
open Go.RowKit Nums Fm
set_option maxRecDepth 100000

theorem two_set {w : World} {b : Nat} {a0 a1 : Value} {T : TypeId} {q : Nat × Nat} (h : w.heap[b]? = some (.cells #[a0, a1] T q)) (x y : Value) : ((w.setCell ⟨b, 0, none⟩ x).setCell ⟨b, 1, none⟩ y).cell? ⟨b, 0, none⟩ = some x ∧ ((w.setCell ⟨b, 0, none⟩ x).setCell ⟨b, 1, none⟩ y).cell? ⟨b, 1, none⟩ = some y := by
  have h1 := set_at (o := 0) h x
  have h2 := set_at (o := 1) h1 y
  refine ⟨?_, ?_⟩
  · simp only [World.cell?, h2]; rfl
  · simp only [World.cell?, h2]; rfl
theorem build_results {tmps : Array Value} {w : World} {rb : Nat} {a b : Value} (h2 : tmps.getD 2 undef = .pointer (some ⟨rb, 0, none⟩)) (c0 : w.cell? ⟨rb, 0, none⟩ = some a) (c1 : w.cell? ⟨rb, 1, none⟩ = some b) : (results Tryd.f13 tmps).run Tryd.prog w = .ok (.tuple #[.agg #[a, b], tmps.getD 3 undef]) w := by
  have h2' : tmps[2]?.getD undef = .pointer (some ⟨rb, 0, none⟩) := by simpa using h2
  simp [results, Tryd.results13, go_sem, h2', c0, c1]
/-- What region 11 looks at. -/
def SB (g : Nat) (vs : Value) (w : World) : Prop := w.cell? ⟨g, 0, none⟩ = some vs
theorem SB.facts {g : Nat} {vs : Value} {w : World} (h : SB g vs w) : w.cell? ⟨g, 0, none⟩ = some vs := h
theorem BAt.start {E : Nat} {w : World} {g g1 g2 : Nat} (hb : w.heap[g]? = some (.cells #[.slice none 0 0, .map (some g1), .map (some g2)] 54 (0, 0))) (h1 : w.heap[g1]? = some (.map #[] 0)) (h2 : w.heap[g2]? = some (.map #[] 0)) (hne : g1 ≠ g2) (hlo : E ≤ g ∧ E ≤ g1 ∧ E ≤ g2) : BAt (fun _ => False) E w g g1 g2 (.slice none 0 0) [] [] [] [[]] :=
  ⟨hb, ⟨[], GOwn.nil _ _ _ _, rfl, fun i s hi => by simp at hi⟩, ⟨#[], 0, h1, rfl, by simp⟩, ⟨#[], 0, h2, rfl, by simp⟩, ⟨rfl, rfl, fun i x n hi => by simp at hi, by simp⟩, ⟨rfl, fun i x n hi => by simp at hi, by simp⟩, hne, hlo⟩
theorem BAt.strow {A : Nat → Prop} {E g g1 g2 : Nat} {w : World} {vs : Value} {b : List St} {m1 : List (SK × Nat)} {m2 : List (LK × Nat)} {D : List (List Arc)} (h : BAt A E w g g1 g2 vs b m1 m2 D) : StRow E w vs b := by
  obtain ⟨xss, h1, h2, h3⟩ := h.row
  refine ⟨xss, h1, h2, fun i s hi => ?_⟩
  obtain ⟨va, h4, h5, _⟩ := h3 i s hi
  exact ⟨va, h4, h5⟩

set_option maxHeartbeats 2000000 in
theorem Build_any (w : World) (v : Value) (l : List Pr) (h : PRow w v l) (hl : l.length ≤ 9223372036854775807) (hsm : Sm l) (ht : Tabs w) :
    Calls Tryd.prog 13 #[v] w fun e w' => ∃ base vs b, e = .returned (.tuple #[.agg #[.int .i64 base, vs], .int .i64 (buildE l)]) ∧ BuildSays w w' l base vs b := by
  obtain ⟨ad, cap, rfl⟩ := h.form
  have HR : Hid (PRow w (.slice ad l.length cap) l) := h
  obtain ⟨n, hn⟩ : ∃ n, l.length = n := ⟨_, rfl⟩
  have HN : Hid (l.length = n) := hn
  have HS : Hid (Sm l) := hsm
  have HT : Hid (Tabs w) := ht
  have HA : Hid (∀ o, Below w.heap.size w (w.alloc o)) := fun o => (Below.refl _ w).alloc (Nat.le_refl _) o
  rw [hn] at HR hl
  clear h hsm ht
  rw [hn]
  obtain ⟨C, hC⟩ : ∃ C, buildE l = C := ⟨_, rfl⟩
  have HC : Hid (buildE l = C) := hC
  rw [hC]
  have HZ : Hid (C ≠ 0 ∨ n = 0 → ∀ w', Below w.heap.size w w' → BuildSays w w' l 0 (.slice none 0 0) []) := fun h w' hb => by
    refine ⟨hb, StRow.nil _ _, ?_⟩
    rw [machOf, if_neg]
    rintro ⟨h1, h2⟩
    rcases h with h | h
    · exact h (HC.out.symm.trans h1)
    · exact h2 (List.eq_nil_of_length_eq_zero (HN.out.trans h))
  by_cases hbig : 4096 < n
  · have hbz : (4096 : Int) < (n : Int) := by omega
    have hC70 : C = 70 := by rw [← hC, buildE, if_pos (by omega)]
    subst hC70
    clear hC hn
    go_enter Tryd.func13, Tryd.ntmps13
    go_wp2
    go_returns
    exact ⟨_, _, _, rfl, HZ.out (.inl (by decide)) _ (HA.out _)⟩
  have hbz : ¬ (4096 : Int) < (n : Int) := by omega
  have hCf : faultF none l = C := by rw [← hC, buildE, if_neg (by omega)]
  obtain ⟨rb, hrb⟩ : ∃ rb, rb = w.heap.size := ⟨_, rfl⟩
  obtain ⟨w0, hw0⟩ : ∃ w0, w0 = w.alloc (.cells #[.int .i64 0, .slice none 0 0] 24) := ⟨_, rfl⟩
  have hb0 : Below w.heap.size w w0 := by rw [hw0]; exact HA.out _
  have hr0 : w0.heap[rb]? = some (.cells #[.int .i64 0, .slice none 0 0] 24) := by rw [hw0, hrb]; exact alloc_newP _ _
  have HB0 : Hid (Below w.heap.size w w0) := hb0
  have HR0 : Hid (w0.heap[rb]? = some (.cells #[.int .i64 0, .slice none 0 0] 24) ∧ rb < w0.heap.size ∧ rb = w.heap.size) := ⟨hr0, (Array.getElem?_eq_some_iff.1 hr0).1, hrb⟩
  have HF : Hid (Calls Tryd.prog 24 #[.slice ad n cap] w0 fun e w' => e = .returned (.int .i64 C) ∧ Below w0.heap.size w0 w') := by
    have := firstFault_any w0 _ l (HR.out.below hb0) (by omega) HS.out (HT.out.below hb0)
    rw [hCf] at this
    exact this
  clear hb0 hr0
  by_cases hC0 : ¬ C = 0
  · have hCb : (C == 0) = false := beq_eq_false_iff_ne.2 hC0
    have HCN : Hid (C ≠ 0) := hC0
    clear hC hn hCf hC0
    go_enter Tryd.func13, Tryd.ntmps13
    go_upto_region 1 with fail
    rw [← hw0, ← hrb]
    clear hw0 hrb
    go_upto_region 4 with (go_at_call 24; refine HF.out.mono ?_; rintro e w1 ⟨rfl, hb1⟩)
    have hr1 := (hb1.block rb HR0.out.2.1).trans HR0.out.1
    have hc0 : w1.cell? ⟨rb, 0, none⟩ = some (.int .i64 0) := by simp [World.cell?, hr1]
    have hc1 : w1.cell? ⟨rb, 1, none⟩ = some (.slice none 0 0) := by simp [World.cell?, hr1]
    have hz : ∀ o, w1.frozen? ⟨rb, o, none⟩ = false := fun o => by simp [World.frozen?, hr1]
    have HB1 : Hid (∀ x y, Below w.heap.size w ((w1.setCell ⟨rb, 0, none⟩ x).setCell ⟨rb, 1, none⟩ y)) := fun x y => ((HB0.out.trans (hb1.mono HB0.out.size)).setCell (by show w.heap.size ≤ rb; rw [HR0.out.2.2]; exact Nat.le_refl _) _).setCell (by show w.heap.size ≤ rb; rw [HR0.out.2.2]; exact Nat.le_refl _) _
    have HP : Hid _ := two_set hr1 (.int .i64 0) (.slice none 0 0)
    clear hb1 hr1
    go_wp2
    try simp only [Exit.inBlock, Exit.then]
    refine bodyPost_ret (build_results rfl HP.out.1 HP.out.2) rfl ?_
    exact ⟨_, _, _, rfl, HZ.out (.inl HCN.out) _ (HB1.out _ _)⟩
  have hC0' : C = 0 := by omega
  subst hC0'
  clear hC0 hC hCf
  by_cases hn0 : n = 0
  · subst hn0
    clear hn
    go_enter Tryd.func13, Tryd.ntmps13
    go_upto_region 1 with fail
    rw [← hw0, ← hrb]
    clear hw0 hrb
    go_upto_region 4 with (go_at_call 24; refine HF.out.mono ?_; rintro e w1 ⟨rfl, hb1⟩)
    have hr1 := (hb1.block rb HR0.out.2.1).trans HR0.out.1
    have hc0 : w1.cell? ⟨rb, 0, none⟩ = some (.int .i64 0) := by simp [World.cell?, hr1]
    have hc1 : w1.cell? ⟨rb, 1, none⟩ = some (.slice none 0 0) := by simp [World.cell?, hr1]
    have hz : ∀ o, w1.frozen? ⟨rb, o, none⟩ = false := fun o => by simp [World.frozen?, hr1]
    have HB1 : Hid (∀ x y, Below w.heap.size w ((w1.setCell ⟨rb, 0, none⟩ x).setCell ⟨rb, 1, none⟩ y)) := fun x y => ((HB0.out.trans (hb1.mono HB0.out.size)).setCell (by show w.heap.size ≤ rb; rw [HR0.out.2.2]; exact Nat.le_refl _) _).setCell (by show w.heap.size ≤ rb; rw [HR0.out.2.2]; exact Nat.le_refl _) _
    have HP : Hid _ := two_set hr1 (.int .i64 0) (.slice none 0 0)
    clear hb1 hr1
    go_wp2
    try simp only [Exit.inBlock, Exit.then]
    refine bodyPost_ret (build_results rfl HP.out.1 HP.out.2) rfl ?_
    exact ⟨_, _, _, rfl, HZ.out (.inr (by trivial)) _ (HB1.out _ _)⟩
  have hn0z : ¬ (n : Int) = 0 := by omega
  have hn0b : ((n : Int) == 0) = false := beq_eq_false_iff_ne.2 hn0z
  have HD : Hid (DictOk l) := dict_ok HC.out
  have hl0 : l ≠ [] := fun e => by rw [e] at hn; simp at hn; omega
  have hents0 : ents l ≠ [] := fun e => by have := ents_len l; rw [e, hn] at this; simp at this; omega
  have HOK : Hid (Ok 25 (cut 0 (ents l))) := by show Ok _ _; rw [cut_zero]; exact ok_of_rise 25 (ents l) hents0 HD.out.rise (fun e he => by have := HD.out.en.ln e he; omega)
  have HBK : Hid (bulk (cut 0 (ents l)) ≤ 102400) := by
    show _ ≤ _
    rw [cut_zero]
    have h1 := bulk_le HD.out.en.ln
    rw [ents_len, hn] at h1
    omega
  have HM : Hid (machOf l = (least (ents l), (stF 25 [] (ents l)).1)) := by show _ = _; rw [machOf, if_pos ⟨HC.out, hl0⟩]
  clear HZ hn hents0 hl0
  go_enter Tryd.func13, Tryd.ntmps13
  go_upto_region 1 with fail
  rw [← hw0, ← hrb]
  clear hw0 hrb
  go_upto_region 4 with (go_at_call 24; refine HF.out.mono ?_; rintro e w1 ⟨rfl, hb1⟩)
  have hb01 : Below w.heap.size w w1 := HB0.out.trans (hb1.mono HB0.out.size)
  have HENT := entries_any w1 _ l (HR.out.below hb01) (by rw [HN.out]; omega) HD.out.wd (HT.out.below hb01)
  have HENTH : Hid (Calls Tryd.prog 25 #[.slice ad n cap] w1 fun e w' => ∃ v', e = .returned v' ∧ ERow w'.heap.size w' v' (ents l) ∧ Below w1.heap.size w1 w') := HENT
  have HB1 : Hid (Below w0.heap.size w0 w1) := hb1
  clear hb1 hb01 HENT
  go_upto_region 9 with (go_at_call 25; refine HENTH.out.mono ?_; rintro e w2 ⟨vE, rfl, hE, hb2⟩)
  have HE2 : Hid (ERow w2.heap.size w2 vE (ents l)) := hE
  have HB2 : Hid (Below w0.heap.size w0 w2) := HB1.out.trans (hb2.mono HB1.out.size)
  clear hE hb2
  have hm1 : (Instr.makeMap 51 none).run Tryd.prog w2 = .ok (.map (some w2.heap.size)) (w2.alloc (.map #[] 0)) := run_makeMap _ _
  have hm2 : (Instr.makeMap 52 none).run Tryd.prog (w2.alloc (.map #[] 0)) = .ok (.map (some (w2.heap.size + 1))) ((w2.alloc (.map #[] 0)).alloc (.map #[] 0)) := by
    have := run_makeMap (P := Tryd.prog) 52 (w2.alloc (.map #[] 0))
    rw [show (w2.alloc (.map #[] 0)).heap.size = w2.heap.size + 1 by simp] at this
    exact this
  go_upto_region 10 with fail
  clear hm1 hm2
  obtain ⟨W, hW⟩ : ∃ W, W = ((w2.alloc (.map #[] 0)).alloc (.map #[] 0)).alloc (.cells #[.slice none 0 0, .map (some w2.heap.size), .map (some (w2.heap.size + 1))] 54) := ⟨_, rfl⟩
  obtain ⟨E, hE⟩ : ∃ E, E = w2.heap.size := ⟨_, rfl⟩
  rw [← hW, ← hE]
  have hgm : W.heap[E + 1 + 1]? = some (.cells #[.slice none 0 0, .map (some E), .map (some (E + 1))] 54) := by
    have : ((w2.alloc (.map #[] 0)).alloc (.map #[] 0)).heap.size = E + 1 + 1 := by rw [hE]; simp
    rw [hW, ← this, hE]; exact alloc_newP _ _
  have hg1 : W.heap[E]? = some (.map #[] 0) := by
    rw [hW, (MapKept.heap_alloc _ _).2 E (by rw [hE]; simp; omega), (MapKept.heap_alloc _ _).2 E (by rw [hE]; simp), hE]
    exact alloc_newP _ _
  have hg2 : W.heap[E + 1]? = some (.map #[] 0) := by
    have : (w2.alloc (.map #[] 0)).heap.size = E + 1 := by rw [hE]; simp
    rw [hW, (MapKept.heap_alloc _ _).2 (E + 1) (by rw [hE]; simp), ← this]
    exact alloc_newP _ _
  have hbW : Below w2.heap.size w2 W := by rw [hW]; exact (((Below.refl _ w2).alloc (Nat.le_refl _) _).alloc (by simp) _).alloc (by simp; omega) _
  obtain ⟨g, hg⟩ : ∃ g, g = E + 1 + 1 := ⟨_, rfl⟩
  rw [← hg] at hgm ⊢
  have hBA := BAt.start (E := E) hgm hg1 hg2 (by omega) ⟨by omega, by omega, by omega⟩
  have hEr : ERow E W vE (ents l) := by rw [hE]; exact HE2.out.below hbW
  have HST := state_any 25 (fun _ => False) E g E (E + 1) (.slice none 0 0) [] [] [] [[]] W vE (ents l) 0 hBA hEr HOK.out HD.out.en (by rw [ents_len]; exact HD.out.len) (fun _ _ => Nat.zero_le _) (by omega) (by have := HBK.out; simp only [List.length_nil]; omega) (by have := HBK.out; simp only [List.length_nil]; omega) (fun _ h => h.elim)
  rw [cut_zero] at HST
  have HSTH : Hid (Calls Tryd.prog 26 #[.pointer (some ⟨g, 0, none⟩), vE, .int .i64 0] W fun e w' => ∃ n : Nat, e = .returned (.int .i64 n) ∧ StSays (fun _ => False) E g E (E + 1) (.slice none 0 0) [] [] 25 (ents l) W w' n) := HST
  have hrW : W.heap[rb]? = some (.cells #[.int .i64 0, .slice none 0 0] 24) := (hbW.block rb (Nat.lt_of_lt_of_le HR0.out.2.1 HB2.out.size)).trans ((HB2.out.block rb HR0.out.2.1).trans HR0.out.1)
  have HGE : Hid (g = E + 1 + 1 ∧ E = w2.heap.size ∧ W.heap.size = E + 1 + 1 + 1 ∧ rb < E) := ⟨hg, hE, by rw [hW, hE]; simp, by rw [hE]; exact Nat.lt_of_lt_of_le HR0.out.2.1 HB2.out.size⟩
  have HRW : Hid (W.heap[rb]? = some (.cells #[.int .i64 0, .slice none 0 0] 24)) := hrW
  have HBW : Hid (Below w2.heap.size w2 W) := hbW
  have HERW : Hid (ERow E W vE (ents l)) := hEr
  have HFP : Hid (∀ k, fpB g E (E + 1) (.slice none 0 0) k → E ≤ k) := hBA.fp_lo
  clear hW hE hg HST hBA hEr hgm hg1 hg2 hbW hrW
  go_upto_region 11 with (go_at_call 26; refine HSTH.out.mono ?_; rintro e w3 ⟨nr, rfl, hS3⟩)
  obtain ⟨⟨A', vs', m1', m2', D', hB3, _, hU3, _, hA3, _⟩, _⟩ := hS3
  obtain ⟨hgE, hEw, hWs, hrE⟩ := HGE.out
  have hE3 : Below E W w3 := hU3.below (by omega) HFP.out
  have hr3 : w3.heap[rb]? = some (.cells #[.int .i64 0, .slice none 0 0] 24) := (hE3.block rb hrE).trans HRW.out
  obtain ⟨sd, sc, hvs, _⟩ : ∃ sd sc, vs' = .slice sd ((stF 25 [] (ents l)).1).length sc ∧ True := by
    obtain ⟨xss, h1, h2, _⟩ := hB3.row
    obtain ⟨sd, sc, h3, _⟩ := h1.shape
    exact ⟨sd, sc, by rw [h3, h2], trivial⟩
  obtain ⟨nb, hnb⟩ : ∃ nb, ((stF 25 [] (ents l)).1).length = nb := ⟨_, rfl⟩
  rw [hnb] at hvs
  subst hvs
  have hS0 : SB g (.slice sd nb sc) w3.drew := hB3.cells.1
  have HLS := least_any E w3.drew vE (ents l) (HERW.out.below hE3.drew) (by rw [ents_len, HN.out]; omega) (by have h1 := hU3.size; have h2 : w3.drew.heap.size = w3.heap.size := rfl; omega) (by rw [ents_len, HN.out]; omega)
  clear hgE hEw hWs hrE
  refine region_at (S := SB g (.slice sd nb sc)) 7 rfl mixedP hS0 (fun _ => ?_)
  refine take_at (i := 0) 28 rfl rfl (by kernel_rfl) (by kernel_rfl) (by kernel_rfl) (fun _ _ _ h => h) (by rfl) (fun w hSw => by (have hSw2 := SB.facts hSw; clear hSw; go_simp; first | done | exact rfl)) (by assumption) ?_
  simp only [List.setIfInBounds_toArray, List.set_cons_zero, List.set_cons_succ]
  refine take_at (i := 2) 30 rfl rfl (by kernel_rfl) (by kernel_rfl) (by kernel_rfl) (fun _ _ _ h => h) (by rfl) (fun w hSw => by (have hSw2 := SB.facts hSw; clear hSw; go_simp; first | done | exact rfl)) (by assumption) ?_
  simp only [List.setIfInBounds_toArray, List.set_cons_zero, List.set_cons_succ]
  refine take_at (i := 3) 31 rfl rfl (by kernel_rfl) (by kernel_rfl) (by kernel_rfl) (fun _ _ _ h => h) (by rfl) (fun w hSw => by (have hSw2 := SB.facts hSw; clear hSw; go_simp; first | done | exact rfl)) (by assumption) ?_
  simp only [List.setIfInBounds_toArray, List.set_cons_zero, List.set_cons_succ]
  refine one_call (i := 1) (w0 := w3.drew) 29 27 #[vE] (by kernel_rfl) rfl rfl (by rfl) (by kernel_rfl) ?_
  refine HLS.mono ?_
  rintro e w4 ⟨rfl, hb4⟩
  have hgl : g < w3.heap.size := hB3.lt.1
  have hrl : rb < w3.heap.size := (Array.getElem?_eq_some_iff.1 hr3).1
  have hS4 : SB g (.slice sd nb sc) w4 := (hb4.cell (p := ⟨g, 0, none⟩) hgl).trans hS0
  refine ⟨_, rfl, hS4, fun _ => ?_⟩
  simp only [List.setIfInBounds_toArray, List.set_cons_zero, List.set_cons_succ]
  refine take_at (i := 4) 32 rfl rfl (by kernel_rfl) (by kernel_rfl) (by kernel_rfl) (fun _ _ _ h => h) (by rfl) (fun w hSw => by (have hSw2 := SB.facts hSw; clear hSw; go_simp; first | done | exact rfl)) (by assumption) ?_
  simp only [List.setIfInBounds_toArray, List.set_cons_zero, List.set_cons_succ]
  obtain ⟨hgE, hEw, hWs, hrE⟩ := HGE.out
  have hr4 : w4.heap[rb]? = some (.cells #[.int .i64 0, .slice none 0 0] 24) := (hb4.block rb hrl).trans hr3
  have hc0 : w4.cell? ⟨rb, 0, none⟩ = some (.int .i64 0) := by simp [World.cell?, hr4]
  have hc1 : w4.cell? ⟨rb, 1, none⟩ = some (.slice none 0 0) := by simp [World.cell?, hr4]
  have hz : ∀ o, w4.frozen? ⟨rb, o, none⟩ = false := fun o => by simp [World.frozen?, hr4]
  have hrg : g ≠ rb := by omega
  obtain ⟨w5, hw5⟩ : ∃ w5, w5 = (w4.setCell ⟨rb, 0, none⟩ (.int .i64 (least (ents l)))).setCell ⟨rb, 1, none⟩ (.slice sd nb sc) := ⟨_, rfl⟩
  have hp := two_set hr4 (.int .i64 (least (ents l))) (.slice sd nb sc)
  rw [← hw5] at hp
  have he5 : ∀ j, j ≠ rb → w5.heap[j]? = w4.heap[j]? := fun j hj => by rw [hw5, set_other _ _ _ _ hj, set_other _ _ _ _ hj]
  have hS5 : SB g (.slice sd nb sc) w5 := (World.cell?_of_block (a := ⟨g, 0, none⟩) (he5 g hrg)).trans hS4
  have HFIN : Hid (BuildSays w w5 l (least (ents l)) (.slice sd nb sc) (stF 25 [] (ents l)).1) := by
    have hB4 := hB3.below (show Below w3.heap.size w3 w4 from ⟨hb4.os, hb4.tape, hb4.output, hb4.size, hb4.block⟩)
    have hB5 := hB4.keepJ (w' := w5) (J := fun j => j = rb) (fun j _ hj => he5 j hj) (fun j hj => ⟨fun f => by have := hB4.fp_lo j f; omega, fun f => by rcases hA3 j f with h | h; exact h.elim; omega⟩)
    have hlow : w.heap.size ≤ E := by have h1 := HR0.out.2.2; omega
    have h04 : Below w.heap.size w w4 := by
      have h1 : Below w.heap.size w w2 := HB0.out.trans (HB2.out.mono HB0.out.size)
      have h2 : Below w.heap.size w W := h1.trans (HBW.out.mono h1.size)
      have h3 : Below w.heap.size w w3 := h2.trans (hE3.mono hlow)
      exact h3.trans ((show Below w3.heap.size w3 w4 from ⟨hb4.os, hb4.tape, hb4.output, hb4.size, hb4.block⟩).mono h3.size)
    refine ⟨?_, hB5.strow.mono hlow, HM.out⟩
    rw [hw5]
    exact (h04.setCell (by show w.heap.size ≤ rb; rw [HR0.out.2.2]; exact Nat.le_refl _) _).setCell (by show w.heap.size ≤ rb; rw [HR0.out.2.2]; exact Nat.le_refl _) _
  clear hB3 hU3 hA3 hE3 hr3 hr4 hS0 hS4 HLS hb4 hgl hrl he5 hgE hEw hWs hrE
  refine one_skip (i := 5) (w' := w5) (by kernel_rfl) rfl rfl (by rfl) (by rw [hw5]; go_simp; first | done | exact rfl) hS5 (fun _ => ?_)
  refine one_value (i := 6) (v := .int .i64 0) (w' := w5) 3 (by kernel_rfl) rfl rfl (by rfl) (by kernel_rfl) hS5 (fun _ => ?_)
  refine wpAnyH_done (by kernel_rfl) ?_ _
  clear hw5 hc0 hc1 hz
  go_wp2
  try simp only [Exit.inBlock, Exit.then]
  refine bodyPost_ret (build_results rfl hp.1 hp.2) rfl ?_
  exact ⟨_, _, _, rfl, HFIN.out⟩
end Go.Proofs.YtdidcombjmbkdaaDoor

/- Machines in memory, as they are read. -/
namespace Go.Proofs.YtdidcombjmbkdaaDoor
open Go.RowKit Nums Fm Pk
set_option maxRecDepth 100000

/-- A row of structs that is read, in a block below E. -/
structure GRow (E k : Nat) (w : World) (v : Value) (xss : List (List Value)) : Prop where
  ex : ∃ ad cap, v = .slice ad xss.length cap ∧ (0 < xss.length → ∃ g off, ad = some ⟨g, off, none⟩ ∧ g < E ∧ ∀ (i j : Nat) (x : List Value) (u : Value), xss[i]? = some x → x[j]? = some u → w.cell? ⟨g, off + i * k + j, none⟩ = some u)
theorem GRow.below {E k : Nat} {w w' : World} {v : Value} {xss : List (List Value)} (h : GRow E k w v xss) (hb : Below E w w') : GRow E k w' v xss := by
  obtain ⟨ad, cap, rfl, hc⟩ := h.ex
  refine ⟨ad, cap, rfl, fun h0 => ?_⟩
  obtain ⟨g, off, rfl, hg, hx⟩ := hc h0
  exact ⟨g, off, rfl, hg, fun i j x u hi hj => (hb.cell (p := ⟨g, off + i * k + j, none⟩) hg).trans (hx i j x u hi hj)⟩
theorem GRow.mono {E E' k : Nat} {w : World} {v : Value} {xss : List (List Value)} (h : GRow E k w v xss) (hE : E ≤ E') : GRow E' k w v xss := by
  obtain ⟨ad, cap, rfl, hc⟩ := h.ex
  refine ⟨ad, cap, rfl, fun h0 => ?_⟩
  obtain ⟨g, off, rfl, hg, hx⟩ := hc h0
  exact ⟨g, off, rfl, Nat.lt_of_lt_of_le hg hE, hx⟩
theorem GRow.shape {E k : Nat} {w : World} {v : Value} {xss : List (List Value)} (h : GRow E k w v xss) : ∃ ad cap, v = .slice ad xss.length cap := by
  obtain ⟨ad, cap, rfl, _⟩ := h.ex
  exact ⟨ad, cap, rfl⟩
theorem GOwn.reads {T : TypeId} {k B : Nat} {w : World} {v : Value} {xss : List (List Value)} (h : GOwn T k B w v xss) : GRow w.heap.size k w v xss := by
  obtain ⟨ad, cap, hv, _⟩ := h.shape
  refine ⟨ad, cap, hv, fun h0 => ?_⟩
  obtain ⟨g, c2, hv2, hg, _, _, hc⟩ := h.cell h0
  rw [hv] at hv2
  simp only [Value.slice.injEq] at hv2
  exact ⟨g, 0, hv2.1, hg, fun i j x u hi hj => by rw [Nat.zero_add]; exact hc i j x u hi hj⟩
def cellsRA (a : RArc) : List Value := [.int .i32 a.label, .int .i64 a.out, .int .i64 a.to]
def OkRA (a : RArc) : Prop := Fits32 a.label ∧ Fits64 a.out ∧ Fits64 a.to
/-- Arcs that are read. -/
structure ArcsAt (E : Nat) (w : World) (va : Value) (l : List RArc) : Prop where
  row : GRow E 3 w va (l.map cellsRA)
  ok : ∀ a ∈ l, OkRA a
  len : l.length ≤ 9223372036854775807
theorem ArcsAt.below {E : Nat} {w w' : World} {va : Value} {l : List RArc} (h : ArcsAt E w va l) (hb : Below E w w') : ArcsAt E w' va l := ⟨h.row.below hb, h.ok, h.len⟩
theorem ArcsAt.shape {E : Nat} {w : World} {va : Value} {l : List RArc} (h : ArcsAt E w va l) : ∃ ad cap, va = .slice ad l.length cap := by
  obtain ⟨ad, cap, h1⟩ := h.row.shape
  exact ⟨ad, cap, by rw [h1, List.length_map]⟩
/-- One arc's cells. -/
theorem ArcsAt.at {E : Nat} {w : World} {ad : Option Addr} {n cap : Nat} {l : List RArc} (h : ArcsAt E w (.slice ad n cap) l) {k : Nat} {a : RArc} (ha : l[k]? = some a) : ∃ g off, ad = some ⟨g, off, none⟩ ∧ g < E ∧ w.cell? ⟨g, off + k * 3, none⟩ = some (.int .i32 a.label) ∧ w.cell? ⟨g, off + k * 3 + 1, none⟩ = some (.int .i64 a.out) ∧ w.cell? ⟨g, off + k * 3 + 2, none⟩ = some (.int .i64 a.to) := by
  obtain ⟨ad', cap', hv, hc⟩ := h.row.ex
  simp only [Value.slice.injEq] at hv
  have hk := (List.getElem?_eq_some_iff.1 ha).1
  obtain ⟨g, off, rfl, hg, hx⟩ := hc (by rw [List.length_map]; omega)
  have e : (l.map cellsRA)[k]? = some (cellsRA a) := by rw [List.getElem?_map, ha]; rfl
  exact ⟨g, off, hv.1, hg, hx k 0 _ _ e rfl, hx k 1 _ _ e rfl, hx k 2 _ _ e rfl⟩
/-- States that are read. -/
structure StsAt (E : Nat) (w : World) (vs : Value) (m : List RSt) : Prop where
  ex : ∃ xss, GRow E 3 w vs xss ∧ xss.length = m.length ∧ ∀ (i : Nat) (s : RSt), m[i]? = some s → ∃ va, xss[i]? = some [.bool s.final, .int .i64 s.out, va] ∧ ArcsAt E w va s.arcs
  ok : ∀ s ∈ m, Fits64 s.out
  len : m.length ≤ 9223372036854775807
theorem StsAt.below {E : Nat} {w w' : World} {vs : Value} {m : List RSt} (h : StsAt E w vs m) (hb : Below E w w') : StsAt E w' vs m := by
  obtain ⟨xss, h1, h2, h3⟩ := h.ex
  refine ⟨⟨xss, h1.below hb, h2, fun i s hi => ?_⟩, h.ok, h.len⟩
  obtain ⟨va, e1, e2⟩ := h3 i s hi
  exact ⟨va, e1, e2.below hb⟩
theorem StsAt.shape {E : Nat} {w : World} {vs : Value} {m : List RSt} (h : StsAt E w vs m) : ∃ ad cap, vs = .slice ad m.length cap := by
  obtain ⟨xss, h1, h2, _⟩ := h.ex
  obtain ⟨ad, cap, e⟩ := h1.shape
  exact ⟨ad, cap, by rw [e, h2]⟩
/-- One state's cells. -/
theorem StsAt.at {E : Nat} {w : World} {ad : Option Addr} {n cap : Nat} {m : List RSt} (h : StsAt E w (.slice ad n cap) m) {k : Nat} {s : RSt} (hs : m[k]? = some s) : ∃ g off va, ad = some ⟨g, off, none⟩ ∧ g < E ∧ w.cell? ⟨g, off + k * 3, none⟩ = some (.bool s.final) ∧ w.cell? ⟨g, off + k * 3 + 1, none⟩ = some (.int .i64 s.out) ∧ w.cell? ⟨g, off + k * 3 + 2, none⟩ = some va ∧ ArcsAt E w va s.arcs := by
  obtain ⟨xss, h1, h2, h3⟩ := h.ex
  obtain ⟨ad', cap', hv, hc⟩ := h1.ex
  simp only [Value.slice.injEq] at hv
  have hk := (List.getElem?_eq_some_iff.1 hs).1
  obtain ⟨g, off, rfl, hg, hx⟩ := hc (by omega)
  obtain ⟨va, e1, e2⟩ := h3 k s hs
  exact ⟨g, off, va, hv.1, hg, hx k 0 _ _ e1 rfl, hx k 1 _ _ e1 rfl, hx k 2 _ _ e1 rfl, e2⟩
end Go.Proofs.YtdidcombjmbkdaaDoor
