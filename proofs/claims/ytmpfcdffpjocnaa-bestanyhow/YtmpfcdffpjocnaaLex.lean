/- Rows of numbers, one ahead of the other; bytes are ordered as runes are. No program is named here. -/
import Derived.Test.YtmpfcdffpjocnaaWhole
namespace Go.Proofs.Ytmpfcdffpjocnaa.Nums

def lexL : List Int → List Int → Bool
  | _, [] => false
  | [], _ :: _ => true
  | a :: x, b :: y => decide (a < b) || (decide (a = b) && lexL x y)
theorem lexL_nil (x : List Int) : lexL x [] = false := by cases x <;> rfl
theorem lexL_cons (a b : Int) (x y : List Int) : lexL (a :: x) (b :: y) = (decide (a < b) || (decide (a = b) && lexL x y)) := rfl
theorem lexL_same (a : Int) (x y : List Int) : lexL (a :: x) (a :: y) = lexL x y := by simp [lexL_cons]
theorem lexL_pre : ∀ (p x y : List Int), lexL (p ++ x) (p ++ y) = lexL x y
  | [], _, _ => rfl
  | a :: p, x, y => by rw [List.cons_append, List.cons_append, lexL_same, lexL_pre p]
theorem lexL_asymm : ∀ x y : List Int, lexL x y = true → lexL y x = false
  | _, [], h => by rw [lexL_nil] at h; cases h
  | [], _ :: _, _ => rfl
  | a :: x, b :: y, h => by
    rw [lexL_cons] at h ⊢
    by_cases e : a = b
    · subst e
      simp at h ⊢
      exact lexL_asymm x y h
    · simp [e] at h
      simp
      omega
theorem lexL_at : ∀ (k : Nat) (xs ys : List Int), k < xs.length → k < ys.length → (∀ j, j < k → xs.getD j 0 = ys.getD j 0) → xs.getD k 0 ≠ ys.getD k 0 → lexL xs ys = decide (xs.getD k 0 < ys.getD k 0)
  | _, [], _, h, _, _, _ => by simp at h
  | _, _ :: _, [], _, h, _, _ => by simp at h
  | 0, a :: x, b :: y, _, _, _, hn => by
    have hn' : a ≠ b := hn
    rw [lexL_cons, decide_eq_false hn']
    simp
  | k + 1, a :: x, b :: y, h1, h2, ha, hn => by
    have e : a = b := ha 0 (by omega)
    subst e
    rw [lexL_same, lexL_at k x y (by simpa using h1) (by simpa using h2) (fun j hj => by have := ha (j + 1) (by omega); simpa using this) (by simpa using hn)]
    simp
theorem lexL_end : ∀ (k : Nat) (xs ys : List Int), k ≤ xs.length → k ≤ ys.length → (∀ j, j < k → xs.getD j 0 = ys.getD j 0) → (k = xs.length ∨ k = ys.length) → lexL xs ys = decide (xs.length < ys.length)
  | _, xs, [], _, _, _, _ => by rw [lexL_nil]; simp
  | _, [], _ :: _, _, _, _, _ => by simp [lexL]
  | 0, a :: x, b :: y, _, _, _, h => by simp at h
  | k + 1, a :: x, b :: y, h1, h2, ha, h => by
    have e : a = b := ha 0 (by omega)
    subst e
    rw [lexL_same, lexL_end k x y (by simpa using h1) (by simpa using h2) (fun j hj => by have := ha (j + 1) (by omega); simpa using this) (by simpa using h)]
    simp

/-- A byte as a number. -/
def N (c : UInt8) : Int := (c.toNat : Int)
theorem less_lex : ∀ a b : List UInt8, Op.bytesLess a b = lexL (a.map N) (b.map N)
  | _, [] => by rw [Op.bytesLess.eq_1, List.map_nil, lexL_nil]
  | [], _ :: _ => by rw [Op.bytesLess.eq_2]; rfl
  | a :: x, b :: y => by
    rw [Op.bytesLess.eq_3, List.map_cons, List.map_cons, lexL_cons, less_lex x y]
    have e1 : decide (a < b) = decide (N a < N b) := decide_eq_decide.2 (by unfold N; rw [UInt8.lt_iff_toNat_lt]; omega)
    have e2 : (a == b) = decide (N a = N b) := by
      rw [Bool.eq_iff_iff, beq_iff_eq, decide_eq_true_iff]
      unfold N
      exact ⟨fun h => by rw [h], fun h => UInt8.toNat_inj.1 (by omega)⟩
    rw [e1, e2]
theorem bt_map (l : List UInt8) (i : Nat) : (l.map N).getD i 0 = bt l i := by
  unfold bt
  rw [List.getD_eq_getElem?_getD, List.getElem?_map, List.getD_eq_getElem?_getD]
  cases l[i]? <;> rfl
theorem wr_map {r : Int} (h : isR r = true) : (wr r).map N = wrI r := by
  have hb := of_decide_eq_true h
  unfold wr
  rw [List.map_map]
  have : ∀ x ∈ wrI r, (N ∘ u8) x = x := by
    intro x hx
    refine u8_val ?_ ?_
    all_goals
      revert hx
      unfold wrI
      repeat' split
      all_goals
        intro hx
        simp at hx
        omega
  rw [List.map_congr_left this, List.map_id']

/-- A lesser rune's writing is ahead of a greater one's, whatever stands behind. -/
theorem lex_wr {x y : Int} (hx : isR x = true) (hy : isR y = true) (h : x < y) (s t : List Int) : lexL (wrI x ++ s) (wrI y ++ t) = true := by
  have bx := of_decide_eq_true hx
  have byy := of_decide_eq_true hy
  clear hx hy
  have cx : (x < 128 ∧ wrI x = [x]) ∨ (128 ≤ x ∧ x < 2048 ∧ wrI x = [192 + x / 64, 128 + x % 64]) ∨ (2048 ≤ x ∧ x < 65536 ∧ wrI x = [224 + x / 64 / 64, 128 + x / 64 % 64, 128 + x % 64]) ∨ (65536 ≤ x ∧ wrI x = [240 + x / 64 / 64 / 64, 128 + x / 64 / 64 % 64, 128 + x / 64 % 64, 128 + x % 64]) := by
    by_cases a : x < 128
    · exact .inl ⟨a, wrI1 a⟩
    by_cases b : x < 2048
    · exact .inr (.inl ⟨by omega, b, wrI2 (by omega) b⟩)
    by_cases c : x < 65536
    · exact .inr (.inr (.inl ⟨by omega, c, wrI3 (by omega) c⟩))
    · exact .inr (.inr (.inr ⟨by omega, wrI4 (by omega)⟩))
  have cy : (y < 128 ∧ wrI y = [y]) ∨ (128 ≤ y ∧ y < 2048 ∧ wrI y = [192 + y / 64, 128 + y % 64]) ∨ (2048 ≤ y ∧ y < 65536 ∧ wrI y = [224 + y / 64 / 64, 128 + y / 64 % 64, 128 + y % 64]) ∨ (65536 ≤ y ∧ wrI y = [240 + y / 64 / 64 / 64, 128 + y / 64 / 64 % 64, 128 + y / 64 % 64, 128 + y % 64]) := by
    by_cases a : y < 128
    · exact .inl ⟨a, wrI1 a⟩
    by_cases b : y < 2048
    · exact .inr (.inl ⟨by omega, b, wrI2 (by omega) b⟩)
    by_cases c : y < 65536
    · exact .inr (.inr (.inl ⟨by omega, c, wrI3 (by omega) c⟩))
    · exact .inr (.inr (.inr ⟨by omega, wrI4 (by omega)⟩))
  rcases cx with ⟨x1, ex⟩ | ⟨x0, x1, ex⟩ | ⟨x0, x1, ex⟩ | ⟨x0, ex⟩ <;> rcases cy with ⟨y1, ey⟩ | ⟨y0, y1, ey⟩ | ⟨y0, y1, ey⟩ | ⟨y0, ey⟩ <;> rw [ex, ey] <;>
    simp only [List.cons_append, List.nil_append, lexL_cons, Bool.or_eq_true, Bool.and_eq_true, decide_eq_true_eq] <;> omega

/-- Texts that are writings are ordered as their runes are. -/
theorem order_texts : ∀ (xs ys : List Int), xs.all isR = true → ys.all isR = true → lexL ((xs.flatMap wr).map N) ((ys.flatMap wr).map N) = lexL xs ys
  | xs, [], _, _ => by simp [lexL_nil]
  | [], y :: ys, _, h => by
    have hy : isR y = true := by simp at h; exact h.1
    rw [List.flatMap_cons, List.map_append, wr_map hy]
    have hl := wrI_len y
    cases e : wrI y with
    | nil => rw [e] at hl; simp at hl
    | cons a t => rfl
  | x :: xs, y :: ys, hxs, hys => by
    have hx : isR x = true := by simp at hxs; exact hxs.1
    have hy : isR y = true := by simp at hys; exact hys.1
    have hx2 : xs.all isR = true := by simp at hxs; simpa using hxs.2
    have hy2 : ys.all isR = true := by simp at hys; simpa using hys.2
    rw [List.flatMap_cons, List.flatMap_cons, List.map_append, List.map_append, wr_map hx, wr_map hy, lexL_cons]
    by_cases e : x = y
    · subst e
      rw [lexL_pre, order_texts xs ys hx2 hy2]
      simp
    by_cases l : x < y
    · rw [lex_wr hx hy l]; simp [l]
    · rw [lexL_asymm _ _ (lex_wr hy hx (by omega) _ _)]; simp [l, e]
theorem order_rs {a b : List UInt8} {xs ys : List Int} (h1 : rs a = some xs) (h2 : rs b = some ys) : lexL (a.map N) (b.map N) = lexL xs ys := by
  obtain ⟨p1, p2⟩ := rs_write h1
  obtain ⟨q1, q2⟩ := rs_write h2
  have := order_texts xs ys p1 q1
  rw [p2, q2] at this
  exact this
end Go.Proofs.Ytmpfcdffpjocnaa.Nums
