/- Texts that were written apart, joined. -/
import Derived.Test.YthjlihhknaelaaaDoorJ4
/- Rows of numbers, one ahead of the other; bytes are ordered as runes are. No program is named here. -/
namespace Go.Proofs.YthjlihhknaelaaaDoor.Nums

def lexL : List Int → List Int → Bool
  | _, [] => false
  | [], _ :: _ => true
  | a :: x, b :: y => decide (a < b) || (decide (a = b) && lexL x y)
theorem lexL_nil (x : List Int) : lexL x [] = false := by cases x <;> rfl
theorem lexL_cons (a b : Int) (x y : List Int) : lexL (a :: x) (b :: y) = (decide (a < b) || (decide (a = b) && lexL x y)) := rfl
theorem lexL_same (a : Int) (x y : List Int) : lexL (a :: x) (a :: y) = lexL x y := by simp [lexL_cons]
theorem lexL_pre : ∀ (p x y : List Int), lexL (p ++ x) (p ++ y) = lexL x y
  | [], _, _ => rfl
  | a :: p, x, y => by rw [List.cons_append, List.cons_append, lexL_same, lexL_pre p]
theorem lexL_asymm : ∀ x y : List Int, lexL x y = true → lexL y x = false
  | _, [], h => by rw [lexL_nil] at h; cases h
  | [], _ :: _, _ => rfl
  | a :: x, b :: y, h => by
    rw [lexL_cons] at h ⊢
    by_cases e : a = b
    · subst e
      simp at h ⊢
      exact lexL_asymm x y h
    · simp [e] at h
      simp
      omega
theorem lexL_at : ∀ (k : Nat) (xs ys : List Int), k < xs.length → k < ys.length → (∀ j, j < k → xs.getD j 0 = ys.getD j 0) → xs.getD k 0 ≠ ys.getD k 0 → lexL xs ys = decide (xs.getD k 0 < ys.getD k 0)
  | _, [], _, h, _, _, _ => by simp at h
  | _, _ :: _, [], _, h, _, _ => by simp at h
  | 0, a :: x, b :: y, _, _, _, hn => by
    have hn' : a ≠ b := hn
    rw [lexL_cons, decide_eq_false hn']
    simp
  | k + 1, a :: x, b :: y, h1, h2, ha, hn => by
    have e : a = b := ha 0 (by omega)
    subst e
    rw [lexL_same, lexL_at k x y (by simpa using h1) (by simpa using h2) (fun j hj => by have := ha (j + 1) (by omega); simpa using this) (by simpa using hn)]
    simp
theorem lexL_end : ∀ (k : Nat) (xs ys : List Int), k ≤ xs.length → k ≤ ys.length → (∀ j, j < k → xs.getD j 0 = ys.getD j 0) → (k = xs.length ∨ k = ys.length) → lexL xs ys = decide (xs.length < ys.length)
  | _, xs, [], _, _, _, _ => by rw [lexL_nil]; simp
  | _, [], _ :: _, _, _, _, _ => by simp [lexL]
  | 0, a :: x, b :: y, _, _, _, h => by simp at h
  | k + 1, a :: x, b :: y, h1, h2, ha, h => by
    have e : a = b := ha 0 (by omega)
    subst e
    rw [lexL_same, lexL_end k x y (by simpa using h1) (by simpa using h2) (fun j hj => by have := ha (j + 1) (by omega); simpa using this) (by simpa using h)]
    simp

/-- A byte as a number. -/
def N (c : UInt8) : Int := (c.toNat : Int)
theorem less_lex : ∀ a b : List UInt8, Op.bytesLess a b = lexL (a.map N) (b.map N)
  | _, [] => by rw [Op.bytesLess.eq_1, List.map_nil, lexL_nil]
  | [], _ :: _ => by rw [Op.bytesLess.eq_2]; rfl
  | a :: x, b :: y => by
    rw [Op.bytesLess.eq_3, List.map_cons, List.map_cons, lexL_cons, less_lex x y]
    have e1 : decide (a < b) = decide (N a < N b) := decide_eq_decide.2 (by unfold N; rw [UInt8.lt_iff_toNat_lt]; omega)
    have e2 : (a == b) = decide (N a = N b) := by
      rw [Bool.eq_iff_iff, beq_iff_eq, decide_eq_true_iff]
      unfold N
      exact ⟨fun h => by rw [h], fun h => UInt8.toNat_inj.1 (by omega)⟩
    rw [e1, e2]
theorem bt_map (l : List UInt8) (i : Nat) : (l.map N).getD i 0 = bt l i := by
  unfold bt
  rw [List.getD_eq_getElem?_getD, List.getElem?_map, List.getD_eq_getElem?_getD]
  cases l[i]? <;> rfl
theorem wr_map {r : Int} (h : isR r = true) : (wr r).map N = wrI r := by
  have hb := of_decide_eq_true h
  unfold wr
  rw [List.map_map]
  have : ∀ x ∈ wrI r, (N ∘ u8) x = x := by
    intro x hx
    refine u8_val ?_ ?_
    all_goals
      revert hx
      unfold wrI
      repeat' split
      all_goals
        intro hx
        simp at hx
        omega
  rw [List.map_congr_left this, List.map_id']

/-- A lesser rune's writing is ahead of a greater one's, whatever stands behind. -/
theorem lex_wr {x y : Int} (hx : isR x = true) (hy : isR y = true) (h : x < y) (s t : List Int) : lexL (wrI x ++ s) (wrI y ++ t) = true := by
  have bx := of_decide_eq_true hx
  have byy := of_decide_eq_true hy
  clear hx hy
  have cx : (x < 128 ∧ wrI x = [x]) ∨ (128 ≤ x ∧ x < 2048 ∧ wrI x = [192 + x / 64, 128 + x % 64]) ∨ (2048 ≤ x ∧ x < 65536 ∧ wrI x = [224 + x / 64 / 64, 128 + x / 64 % 64, 128 + x % 64]) ∨ (65536 ≤ x ∧ wrI x = [240 + x / 64 / 64 / 64, 128 + x / 64 / 64 % 64, 128 + x / 64 % 64, 128 + x % 64]) := by
    by_cases a : x < 128
    · exact .inl ⟨a, wrI1 a⟩
    by_cases b : x < 2048
    · exact .inr (.inl ⟨by omega, b, wrI2 (by omega) b⟩)
    by_cases c : x < 65536
    · exact .inr (.inr (.inl ⟨by omega, c, wrI3 (by omega) c⟩))
    · exact .inr (.inr (.inr ⟨by omega, wrI4 (by omega)⟩))
  have cy : (y < 128 ∧ wrI y = [y]) ∨ (128 ≤ y ∧ y < 2048 ∧ wrI y = [192 + y / 64, 128 + y % 64]) ∨ (2048 ≤ y ∧ y < 65536 ∧ wrI y = [224 + y / 64 / 64, 128 + y / 64 % 64, 128 + y % 64]) ∨ (65536 ≤ y ∧ wrI y = [240 + y / 64 / 64 / 64, 128 + y / 64 / 64 % 64, 128 + y / 64 % 64, 128 + y % 64]) := by
    by_cases a : y < 128
    · exact .inl ⟨a, wrI1 a⟩
    by_cases b : y < 2048
    · exact .inr (.inl ⟨by omega, b, wrI2 (by omega) b⟩)
    by_cases c : y < 65536
    · exact .inr (.inr (.inl ⟨by omega, c, wrI3 (by omega) c⟩))
    · exact .inr (.inr (.inr ⟨by omega, wrI4 (by omega)⟩))
  rcases cx with ⟨x1, ex⟩ | ⟨x0, x1, ex⟩ | ⟨x0, x1, ex⟩ | ⟨x0, ex⟩ <;> rcases cy with ⟨y1, ey⟩ | ⟨y0, y1, ey⟩ | ⟨y0, y1, ey⟩ | ⟨y0, ey⟩ <;> rw [ex, ey] <;>
    simp only [List.cons_append, List.nil_append, lexL_cons, Bool.or_eq_true, Bool.and_eq_true, decide_eq_true_eq] <;> omega

/-- Texts that are writings are ordered as their runes are. -/
theorem order_texts : ∀ (xs ys : List Int), xs.all isR = true → ys.all isR = true → lexL ((xs.flatMap wr).map N) ((ys.flatMap wr).map N) = lexL xs ys
  | xs, [], _, _ => by simp [lexL_nil]
  | [], y :: ys, _, h => by
    have hy : isR y = true := by simp at h; exact h.1
    rw [List.flatMap_cons, List.map_append, wr_map hy]
    have hl := wrI_len y
    cases e : wrI y with
    | nil => rw [e] at hl; simp at hl
    | cons a t => rfl
  | x :: xs, y :: ys, hxs, hys => by
    have hx : isR x = true := by simp at hxs; exact hxs.1
    have hy : isR y = true := by simp at hys; exact hys.1
    have hx2 : xs.all isR = true := by simp at hxs; simpa using hxs.2
    have hy2 : ys.all isR = true := by simp at hys; simpa using hys.2
    rw [List.flatMap_cons, List.flatMap_cons, List.map_append, List.map_append, wr_map hx, wr_map hy, lexL_cons]
    by_cases e : x = y
    · subst e
      rw [lexL_pre, order_texts xs ys hx2 hy2]
      simp
    by_cases l : x < y
    · rw [lex_wr hx hy l]; simp [l]
    · rw [lexL_asymm _ _ (lex_wr hy hx (by omega) _ _)]; simp [l, e]
theorem order_rs {a b : List UInt8} {xs ys : List Int} (h1 : rs a = some xs) (h2 : rs b = some ys) : lexL (a.map N) (b.map N) = lexL xs ys := by
  obtain ⟨p1, p2⟩ := rs_write h1
  obtain ⟨q1, q2⟩ := rs_write h2
  have := order_texts xs ys p1 q1
  rw [p2, q2] at this
  exact this
end Go.Proofs.YthjlihhknaelaaaDoor.Nums

/- Rests that rise: groups, and that a state can be made of them. -/
namespace Go.Proofs.YthjlihhknaelaaaDoor.Fm
open Go.Proofs.YthjlihhknaelaaaDoor.Nums

/-- Words rise. -/
def Rise (S : List En) : Prop := S.Pairwise fun a b => lexL a.1 b.1 = true
theorem lexL_ne {x y : List Int} (h : lexL x y = true) : y ≠ [] := fun e => by rw [e, lexL_nil] at h; cases h
theorem rise_rest {S : List En} (h : Rise S) : Rise (restOf S) ∧ ∀ e ∈ restOf S, e.1 ≠ [] := by
  cases S with
  | nil => exact ⟨h, fun e he => by cases he⟩
  | cons x r =>
    obtain ⟨a, n⟩ := x
    obtain ⟨h1, h2⟩ := List.pairwise_cons.1 h
    cases a with
    | nil => exact ⟨h2, fun e he => lexL_ne (h1 e he)⟩
    | cons c t =>
      refine ⟨h, fun e he => ?_⟩
      rcases List.mem_cons.1 he with rfl | he
      · simp
      · exact lexL_ne (h1 e he)
/-- A rune laid ahead. -/
def pre (c : Int) (e : En) : En := (c :: e.1, e.2)
theorem pre_hd_tl {e : En} (h : e.1 ≠ []) : pre (hd e) (tl e) = e := by
  obtain ⟨x, n⟩ := e
  cases x with
  | nil => exact absurd rfl h
  | cons c t => rfl
/-- Groups, laid back. -/
def flat (gs : List (Int × List En)) : List En := gs.flatMap fun p => p.2.map (pre p.1)
theorem lead_hd (c : Int) : ∀ (r : List En), ∀ e ∈ r.take (lead c r), hd e = c
  | [], e, h => by simp at h
  | x :: r, e, h => by
    rw [lead] at h
    split at h
    · rename_i hx
      rw [List.take_succ_cons] at h
      rcases List.mem_cons.1 h with rfl | h
      · exact hx
      · exact lead_hd c r e h
    · simp at h
theorem map_pre_tl {c : Int} : ∀ (l : List En), (∀ e ∈ l, e.1 ≠ [] ∧ hd e = c) → (l.map tl).map (pre c) = l
  | [], _ => rfl
  | e :: r, h => by
    obtain ⟨h1, h2⟩ := h e (by simp)
    rw [List.map_cons, List.map_cons, map_pre_tl r fun x hx => h x (by simp [hx]), ← h2, pre_hd_tl h1]
theorem grp_head {e : En} {r : List En} : ∀ x ∈ (e :: r).take (lead (hd e) r + 1), hd x = hd e := fun x hx => by
  rw [List.take_succ_cons] at hx
  rcases List.mem_cons.1 hx with rfl | hx
  · rfl
  · exact lead_hd _ _ x hx
theorem flat_grp : ∀ (n : Nat) (l : List En), l.length ≤ n → (∀ e ∈ l, e.1 ≠ []) → flat (grp l) = l
  | _, [], _, _ => rfl
  | 0, e :: r, h, _ => by simp at h
  | n + 1, e :: r, h, hne => by
    rw [grp_cons, flat, List.flatMap_cons, ← flat]
    rw [flat_grp n _ (by rw [List.length_drop]; simp at h ⊢; omega) (fun x hx => hne x (List.mem_of_mem_drop hx))]
    rw [map_pre_tl _ fun x hx => ⟨hne x (List.mem_of_mem_take hx), grp_head x hx⟩, List.take_append_drop]
theorem grp_ne : ∀ (n : Nat) (l : List En), l.length ≤ n → ∀ p ∈ grp l, p.2 ≠ []
  | _, [], _, _, h => by cases h
  | 0, e :: r, h, _, _ => by simp at h
  | n + 1, e :: r, h, p, hp => by
    rw [grp_cons] at hp
    rcases List.mem_cons.1 hp with rfl | hp
    · simp
    · exact grp_ne n _ (by rw [List.length_drop]; simp at h ⊢; omega) p hp
theorem grp_mem {l : List En} (hne : ∀ e ∈ l, e.1 ≠ []) {p : Int × List En} (hp : p ∈ grp l) {e : En} (he : e ∈ p.2) : pre p.1 e ∈ l := by
  rw [← flat_grp _ l (Nat.le_refl _) hne]
  exact List.mem_flatMap.2 ⟨p, hp, List.mem_map.2 ⟨e, he, rfl⟩⟩
theorem rise_tl {c : Int} {l : List En} (h : Rise l) (hc : ∀ e ∈ l, e.1 ≠ [] ∧ hd e = c) : Rise (l.map tl) := by
  unfold Rise
  rw [List.pairwise_map]
  refine List.Pairwise.imp_of_mem ?_ h
  intro a b ha hb hab
  obtain ⟨h1, h2⟩ := hc a ha
  obtain ⟨h3, h4⟩ := hc b hb
  obtain ⟨x, n⟩ := a
  obtain ⟨y, m⟩ := b
  cases x with
  | nil => exact absurd rfl h1
  | cons p x =>
    cases y with
    | nil => exact absurd rfl h3
    | cons q y =>
      have e1 : p = c := h2
      have e2 : q = c := h4
      rw [e1, e2] at hab
      show lexL x y = true
      rw [← lexL_same c x y]
      exact hab
theorem grp_rise : ∀ (n : Nat) (l : List En), l.length ≤ n → (∀ e ∈ l, e.1 ≠ []) → Rise l → ∀ p ∈ grp l, Rise p.2
  | _, [], _, _, _, _, h => by cases h
  | 0, e :: r, h, _, _, _, _ => by simp at h
  | n + 1, e :: r, h, hne, hr, p, hp => by
    rw [grp_cons] at hp
    rcases List.mem_cons.1 hp with rfl | hp
    · exact rise_tl (List.Pairwise.sublist (List.take_sublist _ _) hr) fun x hx => ⟨hne x (List.mem_of_mem_take hx), grp_head x hx⟩
    · exact grp_rise n _ (by rw [List.length_drop]; simp at h ⊢; omega) (fun x hx => hne x (List.mem_of_mem_drop hx)) (List.Pairwise.sublist (List.drop_sublist _ _) hr) p hp
/-- The heads of what rises rise. -/
theorem hd_le {a b : En} (h : lexL a.1 b.1 = true) (ha : a.1 ≠ []) : hd a ≤ hd b := by
  obtain ⟨x, n⟩ := a
  obtain ⟨y, m⟩ := b
  cases x with
  | nil => exact absurd rfl ha
  | cons p x =>
    cases y with
    | nil => rw [lexL_nil] at h; cases h
    | cons q y =>
      rw [lexL_cons] at h
      show p ≤ q
      simp only [Bool.or_eq_true, Bool.and_eq_true, decide_eq_true_eq] at h
      omega
theorem lead_stop (c : Int) : ∀ (r : List En) (x : En), r[lead c r]? = some x → hd x ≠ c
  | [], x, h => by simp at h
  | e :: r, x, h => by
    rw [lead] at h
    split at h
    · exact lead_stop c r x (by simpa using h)
    · rename_i hne
      simp at h
      subst h
      exact hne
/-- Labels rise. -/
theorem grp_labels : ∀ (n : Nat) (l : List En), l.length ≤ n → (∀ e ∈ l, e.1 ≠ []) → Rise l → (grp l).Pairwise (fun p q => p.1 < q.1) ∧ ∀ p ∈ grp l, ∃ e ∈ l, hd e = p.1
  | _, [], _, _, _ => ⟨List.Pairwise.nil, fun p h => by cases h⟩
  | 0, e :: r, h, _, _ => by simp at h
  | n + 1, e :: r, h, hne, hr => by
    obtain ⟨ih1, ih2⟩ := grp_labels n ((e :: r).drop (lead (hd e) r + 1)) (by rw [List.length_drop]; simp at h ⊢; omega) (fun x hx => hne x (List.mem_of_mem_drop hx)) (List.Pairwise.sublist (List.drop_sublist _ _) hr)
    rw [grp_cons]
    obtain ⟨hr1, hr2⟩ := List.pairwise_cons.1 hr
    have hgt : ∀ x ∈ (e :: r).drop (lead (hd e) r + 1), hd e < hd x := fun x hx => by
      rw [List.drop_succ_cons] at hx
      have hxr := List.mem_of_mem_drop hx
      have h1 := hd_le (hr1 x hxr) (hne e (by simp))
      obtain ⟨j, hj⟩ := List.mem_iff_getElem?.1 hx
      rw [List.getElem?_drop] at hj
      obtain ⟨hjl, hje⟩ := List.getElem?_eq_some_iff.1 hj
      obtain ⟨y, hy⟩ : ∃ y, r[lead (hd e) r]? = some y := ⟨r[lead (hd e) r]'(by omega), List.getElem?_eq_getElem _⟩
      have hyn := lead_stop _ _ _ hy
      obtain ⟨hyl, hye⟩ := List.getElem?_eq_some_iff.1 hy
      have hym : y ∈ r := List.mem_of_getElem? hy
      have h2 := hd_le (hr1 y hym) (hne e (by simp))
      have h3 : hd y ≤ hd x := by
        cases j with
        | zero => rw [Nat.add_zero, hy] at hj; cases hj; exact Int.le_refl _
        | succ j =>
          have := List.pairwise_iff_getElem.1 hr2 (lead (hd e) r) (lead (hd e) r + (j + 1)) hyl hjl (by omega)
          rw [hye, hje] at this
          exact hd_le this (hne y (by simp [hym]))
      omega
    refine ⟨List.pairwise_cons.2 ⟨fun p hp => ?_, ih1⟩, fun p hp => ?_⟩
    · obtain ⟨x, hx, hxe⟩ := ih2 p hp
      rw [← hxe]
      exact hgt x hx
    · rcases List.mem_cons.1 hp with rfl | hp
      · exact ⟨e, by simp, rfl⟩
      · obtain ⟨x, hx, hxe⟩ := ih2 p hp
        exact ⟨x, List.mem_of_mem_drop hx, hxe⟩
theorem ok_of_rise : ∀ (f : Nat) (S : List En), S ≠ [] → Rise S → (∀ e ∈ S, e.1.length < f) → Ok f S
  | 0, S, h, _, hl => by
    cases S with
    | nil => exact absurd rfl h
    | cons e r => exact absurd (hl e (by simp)) (by omega)
  | f + 1, S, h, hr, hl => by
    obtain ⟨h1, h2⟩ := rise_rest hr
    have hsub : ∀ e ∈ restOf S, e ∈ S := fun e he => by
      cases S with
      | nil => exact he
      | cons x r =>
        obtain ⟨a, n⟩ := x
        cases a with
        | nil => exact .tail _ he
        | cons c t => exact he
    refine ⟨h, h2, fun p hp => ok_of_rise f p.2 (grp_ne _ _ (Nat.le_refl _) p hp) (grp_rise _ _ (Nat.le_refl _) h2 h1 p hp) fun e he => ?_⟩
    have := hl _ (hsub _ (grp_mem h2 hp he))
    simp only [pre, List.length_cons] at this
    omega
end Go.Proofs.YthjlihhknaelaaaDoor.Fm

/- A machine's states and what they say: each state is known by its levelled rests. No program is named here. -/
namespace Go.Proofs.YthjlihhknaelaaaDoor.Fm
open Go.Proofs.YthjlihhknaelaaaDoor.Nums

/-- All weights greater by n. -/
def shift (n : Int) (S : List En) : List En := S.map fun e => (e.1, e.2 + n)
def level (S : List En) : List En := shift (-least S) S
theorem shift_ne {n : Int} {S : List En} : shift n S ≠ [] ↔ S ≠ [] := by simp [shift]
theorem shift_zero (S : List En) : shift 0 S = S := by simp [shift]
theorem shift_shift (m n : Int) (S : List En) : shift m (shift n S) = shift (n + m) S := by
  simp only [shift, List.map_map]
  refine List.map_congr_left fun e _ => ?_
  simp only [Function.comp, Int.add_assoc]
theorem leastF_shift (n : Int) : ∀ (l : List En) (m : Int), leastF (m + n) (shift n l) = leastF m l + n
  | [], _ => rfl
  | e :: r, m => by
    have ih := leastF_shift n r (if e.2 < m then e.2 else m)
    rw [shift, List.map_cons, ← shift, leastF, leastF, ← ih]
    congr 1
    simp only
    split <;> split <;> omega
theorem least_shift (n : Int) {S : List En} (h : S ≠ []) : least (shift n S) = least S + n := by
  cases S with
  | nil => exact absurd rfl h
  | cons e r => exact leastF_shift n (e :: r) e.2
theorem least_level {S : List En} (h : S ≠ []) : least (level S) = 0 := by rw [level, least_shift _ h]; omega
theorem level_shift (n : Int) {S : List En} (h : S ≠ []) : level (shift n S) = level S := by
  rw [level, least_shift n h, shift_shift, level]
  congr 1
  omega
theorem level_of {S : List En} (h : least S = 0) : level S = S := by rw [level, h]; exact shift_zero S
theorem level_ne {S : List En} : level S ≠ [] ↔ S ≠ [] := shift_ne
theorem shift_level (n : Int) (S : List En) : shift n (level S) = shift (n - least S) S := by rw [level, shift_shift]; congr 1; omega
theorem shift_inj {n : Int} {S T : List En} (h : shift n S = shift n T) : S = T := by
  have := congrArg (shift (-n)) h
  rw [shift_shift, shift_shift, Int.add_right_neg, shift_zero, shift_zero] at this
  exact this
theorem shift_tl (n : Int) (e : En) : tl (e.1, e.2 + n) = ((tl e).1, (tl e).2 + n) := rfl
theorem grp_shift (n : Int) : ∀ l : List En, grp (shift n l) = (grp l).map fun p => (p.1, shift n p.2)
  | [] => rfl
  | e :: r => by
    have ih := grp_shift n r
    rw [shift, List.map_cons, ← shift, grp, grp, ih]
    cases grp r with
    | nil => rfl
    | cons p gs =>
      obtain ⟨c, G⟩ := p
      simp only [List.map_cons]
      have hh : hd (e.1, e.2 + n) = hd e := rfl
      rw [hh]
      by_cases h : hd e = c
      · rw [if_pos h, if_pos h]; rfl
      · rw [if_neg h, if_neg h]; rfl
theorem restOf_shift (n : Int) (S : List En) : restOf (shift n S) = shift n (restOf S) := by
  cases S with
  | nil => rfl
  | cons e r =>
    obtain ⟨x, m⟩ := e
    cases x <;> rfl
theorem finOf_shift (n : Int) (S : List En) : finOf (shift n S) = finOf S := by
  cases S with
  | nil => rfl
  | cons e r =>
    obtain ⟨x, m⟩ := e
    cases x <;> rfl
theorem flat_shift (n : Int) (gs : List (Int × List En)) : shift n (flat gs) = flat (gs.map fun p => (p.1, shift n p.2)) := by
  simp only [shift, flat, List.map_flatMap, List.flatMap_map, List.map_map]
  rfl
/-- What a state says, by what those say to which its arcs lead. -/
def outs (D : List (List En)) (as' : List Arc) : List (Int × List En) := as'.map fun a => (a.label, shift a.out (D[a.to]?.getD []))
def fins (s : St) : List En := if s.final then [([], s.out)] else []
def exp (D : List (List En)) (s : St) : List En := fins s ++ flat (outs D s.arcs)
/-- A state as it may be. -/
structure Canon (D : List (List En)) (s : St) : Prop where
  lab : s.arcs.Pairwise fun a b => a.label < b.label
  to : ∀ a ∈ s.arcs, a.to < D.length
  fin : s.final = false → s.out = 0
structure Inv (D : List (List En)) (b : List St) : Prop where
  len : D.length = b.length
  row : ∀ (i : Nat) (s : St), b[i]? = some s → D[i]? = some (exp D s) ∧ (∀ a ∈ s.arcs, a.to < i) ∧ Canon D s
  nd : D.Nodup
  lv : ∀ R ∈ D, R ≠ [] ∧ least R = 0
theorem Inv.nil : Inv [] [] := ⟨rfl, fun i s h => by simp at h, List.nodup_nil, fun R h => by cases h⟩
theorem pre_get {α : Type} {D D' : List α} (h : D <+: D') {i : Nat} (hi : i < D.length) : D'[i]? = D[i]? := by
  obtain ⟨t, rfl⟩ := h
  exact List.getElem?_append_left hi
theorem outs_pre {D D' : List (List En)} (h : D <+: D') {l : List Arc} (ht : ∀ a ∈ l, a.to < D.length) : outs D' l = outs D l := by
  unfold outs
  refine List.map_congr_left fun a ha => ?_
  rw [pre_get h (ht a ha)]
theorem exp_pre {D D' : List (List En)} (h : D <+: D') {s : St} (ht : ∀ a ∈ s.arcs, a.to < D.length) : exp D' s = exp D s := by
  rw [exp, exp, outs_pre h ht]
theorem Canon.pre {D D' : List (List En)} (h : D <+: D') {s : St} (c : Canon D s) : Canon D' s := ⟨c.lab, fun a ha => Nat.lt_of_lt_of_le (c.to a ha) h.length_le, c.fin⟩
theorem flat_ne {gs : List (Int × List En)} : ∀ e ∈ flat gs, e.1 ≠ [] := fun e he => by
  obtain ⟨p, _, h2⟩ := List.mem_flatMap.1 he
  obtain ⟨x, _, rfl⟩ := List.mem_map.1 h2
  simp [pre]
theorem grp_flat : ∀ (gs : List (Int × List En)), (∀ p ∈ gs, p.2 ≠ []) → gs.Pairwise (fun p q => p.1 < q.1) → grp (flat gs) = gs
  | [], _, _ => rfl
  | (c, G) :: r, hne, hp => by
    obtain ⟨h1, h2⟩ := List.pairwise_cons.1 hp
    have ih := grp_flat r (fun p hp => hne p (by simp [hp])) h2
    have key : ∀ (G : List En), G ≠ [] → grp (G.map (pre c) ++ flat r) = (c, G) :: r := by
      intro G
      induction G with
      | nil => intro h; exact absurd rfl h
      | cons g0 G' ihG =>
        intro _
        rw [List.map_cons, List.cons_append, grp]
        have hh : hd (pre c g0) = c := rfl
        have ht : tl (pre c g0) = g0 := rfl
        by_cases hG : G' = []
        · subst hG
          rw [List.map_nil, List.nil_append, ih, hh, ht]
          cases r with
          | nil => rfl
          | cons p r' =>
            obtain ⟨c', G''⟩ := p
            have : ¬ c = c' := fun e => by have := h1 (c', G'') (by simp); simp only at this; omega
            simp only [if_neg this]
        · rw [ihG hG, hh, ht]
          simp
    have : flat ((c, G) :: r) = G.map (pre c) ++ flat r := rfl
    rw [this]
    exact key G (hne (c, G) (by simp))
theorem fins_parts (s : St) {T : List En} (hT : ∀ e ∈ T, e.1 ≠ []) : finOf (fins s ++ T) = s.final ∧ restOf (fins s ++ T) = T := by
  unfold fins
  cases s.final with
  | true => exact ⟨rfl, rfl⟩
  | false =>
    cases T with
    | nil => exact ⟨rfl, rfl⟩
    | cons e r =>
      obtain ⟨x, n⟩ := e
      cases x with
      | nil => exact absurd rfl (hT ([], n) (by simp))
      | cons c t => exact ⟨rfl, rfl⟩
theorem outs_ok {D : List (List En)} {l : List Arc} (hlv : ∀ R ∈ D, R ≠ [] ∧ least R = 0) (ht : ∀ a ∈ l, a.to < D.length) : ∀ p ∈ outs D l, p.2 ≠ [] := fun p hp => by
  obtain ⟨a, ha, rfl⟩ := List.mem_map.1 hp
  rw [List.getElem?_eq_getElem (ht a ha)]
  exact shift_ne.2 (hlv _ (List.getElem_mem _)).1
theorem outs_lab {D : List (List En)} {l : List Arc} (h : l.Pairwise fun a b => a.label < b.label) : (outs D l).Pairwise fun p q => p.1 < q.1 := by
  unfold outs
  rw [List.pairwise_map]
  exact h
theorem exp_grp {D : List (List En)} {s : St} (hlv : ∀ R ∈ D, R ≠ [] ∧ least R = 0) (c : Canon D s) : finOf (exp D s) = s.final ∧ grp (restOf (exp D s)) = outs D s.arcs := by
  obtain ⟨h1, h2⟩ := fins_parts s (T := flat (outs D s.arcs)) flat_ne
  rw [exp, h1, h2]
  exact ⟨rfl, grp_flat _ (outs_ok hlv c.to) (outs_lab c.lab)⟩
theorem nodup_getD {D : List (List En)} (hn : D.Nodup) {i j : Nat} (hi : i < D.length) (hj : j < D.length) (h : D[i]?.getD [] = D[j]?.getD []) : i = j := by
  rw [List.getElem?_eq_getElem hi, List.getElem?_eq_getElem hj] at h
  simp only [Option.getD_some] at h
  have hp := List.pairwise_iff_getElem.1 hn
  rcases Nat.lt_trichotomy i j with h3 | h3 | h3
  · exact absurd h (hp i j hi hj h3)
  · exact h3
  · exact absurd h.symm (hp j i hj hi h3)
theorem outs_inj {D : List (List En)} (hn : D.Nodup) (hlv : ∀ R ∈ D, R ≠ [] ∧ least R = 0) : ∀ (l m : List Arc), (∀ a ∈ l, a.to < D.length) → (∀ a ∈ m, a.to < D.length) → outs D l = outs D m → l = m
  | [], [], _, _, _ => rfl
  | [], _ :: _, _, _, h => by simp [outs] at h
  | _ :: _, [], _, _, h => by simp [outs] at h
  | a :: l, c :: m, hl, hm, h => by
    simp only [outs, List.map_cons, List.cons.injEq, Prod.mk.injEq] at h
    obtain ⟨⟨h1, h2⟩, h3⟩ := h
    have ha := hl a (by simp)
    have hc := hm c (by simp)
    have va := hlv _ (List.getElem_mem ha)
    have vc := hlv _ (List.getElem_mem hc)
    have h2' := h2
    rw [List.getElem?_eq_getElem ha, List.getElem?_eq_getElem hc] at h2'
    simp only [Option.getD_some] at h2'
    have ho : a.out = c.out := by
      have := congrArg least h2'
      rw [least_shift _ va.1, least_shift _ vc.1, va.2, vc.2] at this
      omega
    rw [ho] at h2
    have ht := nodup_getD hn ha hc (shift_inj h2)
    have e : a = c := by cases a; cases c; simp only at h1 ho ht; rw [h1, ho, ht]
    rw [e, outs_inj hn hlv l m (fun x hx => hl x (by simp [hx])) (fun x hx => hm x (by simp [hx])) h3]
theorem exp_inj {D : List (List En)} (hn : D.Nodup) (hlv : ∀ R ∈ D, R ≠ [] ∧ least R = 0) {s t : St} (cs : Canon D s) (ct : Canon D t) (h : exp D s = exp D t) : s = t := by
  obtain ⟨f1, g1⟩ := exp_grp hlv cs
  obtain ⟨f2, g2⟩ := exp_grp hlv ct
  rw [h, f2] at f1
  rw [h, g2] at g1
  have ha := outs_inj hn hlv _ _ cs.to ct.to g1.symm
  have ho : s.out = t.out := by
    cases hf : s.final with
    | false => rw [cs.fin hf, ct.fin (by rw [f1, hf])]
    | true =>
      rw [exp, exp, fins, fins, hf, f1, hf] at h
      simp only [if_true, List.cons_append, List.nil_append, List.cons.injEq, Prod.mk.injEq, true_and] at h
      exact h.1
  cases s; cases t
  simp only at f1 ha ho
  rw [f1, ha, ho]
end Go.Proofs.YthjlihhknaelaaaDoor.Fm

/- What is made: the states of levelled rests, each once. No program is named here. -/
namespace Go.Proofs.YthjlihhknaelaaaDoor.Fm
open Go.Proofs.YthjlihhknaelaaaDoor.Nums

/-- Levelled rests behind beginnings of words. -/
inductive Sub : List En → List En → Prop
  | here (S : List En) : Sub S (level S)
  | step {S R : List En} {p : Int × List En} : p ∈ grp (restOf S) → Sub p.2 R → Sub S R
/-- What making a state gives. -/
structure Mkd (D : List (List En)) (S : List En) (b : List St) (r : List St × Nat) (D' : List (List En)) : Prop where
  inv : Inv D' r.1
  ext : D <+: D'
  num : D'[r.2]? = some (level S)
  old : ∀ i, D[i]? = some (level S) → r = (b, i) ∧ D' = D
  sub : ∀ R ∈ D', R ∈ D ∨ Sub S R
  all : ∀ R, Sub S R → R ∈ D'
/-- Good rests. -/
def Good (f : Nat) (S : List En) : Prop := S ≠ [] ∧ Rise S ∧ ∀ e ∈ S, e.1.length < f
structure MkdAll (base : Int) (D : List (List En)) (gs : List (Int × List En)) (b : List St) (r : List St × List Arc) (D' : List (List En)) : Prop where
  inv : Inv D' r.1
  ext : D <+: D'
  outs : outs D' r.2 = gs.map fun p => (p.1, shift (-base) p.2)
  to : ∀ a ∈ r.2, a.to < D'.length
  old : (∀ p ∈ gs, level p.2 ∈ D) → r.1 = b ∧ D' = D
  sub : ∀ R ∈ D', R ∈ D ∨ ∃ p ∈ gs, Sub p.2 R
  all : ∀ p ∈ gs, ∀ R, Sub p.2 R → R ∈ D'
theorem arF_spec {f : Nat} {base : Int} (ih : ∀ (D : List (List En)) (b : List St) (S : List En), Inv D b → Good f S → ∃ D', Mkd D S b (stF f b S) D') :
    ∀ (gs : List (Int × List En)) (D : List (List En)) (b : List St), Inv D b → (∀ p ∈ gs, Good f p.2) → ∃ D', MkdAll base D gs b (arF (stF f) base b gs) D'
  | [], D, b, hI, _ => ⟨D, hI, List.prefix_refl _, rfl, fun a ha => by simp [arF] at ha, fun _ => ⟨rfl, rfl⟩, fun R hR => .inl hR, fun p hp => by cases hp⟩
  | (c, G) :: r, D, b, hI, hG => by
    have hGG := hG (c, G) (by simp)
    obtain ⟨D1, M1⟩ := ih D b G hI hGG
    obtain ⟨D2, M2⟩ := arF_spec ih r D1 (stF f b G).1 M1.inv (fun p hp => hG p (by simp [hp]))
    have hlt : (stF f b G).2 < D1.length := (List.getElem?_eq_some_iff.1 M1.num).1
    refine ⟨D2, ?_⟩
    rw [arF]
    refine ⟨M2.inv, M1.ext.trans M2.ext, ?_, fun a ha => ?_, fun h => ?_, fun R hR => ?_, fun p hp R hR => ?_⟩
    · have h2 := M2.outs
      simp only [Fm.outs, List.map_cons] at h2 ⊢
      rw [h2, pre_get M2.ext hlt, M1.num, Option.getD_some, shift_level]
      congr 3
      omega
    · rcases List.mem_cons.1 ha with rfl | ha
      · exact Nat.lt_of_lt_of_le hlt M2.ext.length_le
      · exact M2.to a ha
    · obtain ⟨i, hi⟩ := List.mem_iff_getElem?.1 (h (c, G) (by simp))
      obtain ⟨e1, e2⟩ := M1.old i hi
      subst e2
      obtain ⟨e3, e4⟩ := M2.old fun p hp => h p (by simp [hp])
      exact ⟨by simp only; rw [e3, e1], e4⟩
    · rcases M2.sub R hR with h | ⟨p, hp, h⟩
      · rcases M1.sub R h with h | h
        · exact .inl h
        · exact .inr ⟨(c, G), by simp, h⟩
      · exact .inr ⟨p, by simp [hp], h⟩
    · rcases List.mem_cons.1 hp with rfl | hp
      · exact M2.ext.subset (M1.all R hR)
      · exact M2.all p hp R hR
theorem good_groups {f : Nat} {S : List En} (h : Good (f + 1) S) : ∀ p ∈ grp (restOf S), Good f p.2 := fun p hp => by
  obtain ⟨h0, hr, hl⟩ := h
  obtain ⟨h1, h2⟩ := rise_rest hr
  have hsub : ∀ e ∈ restOf S, e ∈ S := fun e he => by
    cases S with
    | nil => exact he
    | cons x r =>
      obtain ⟨a, n⟩ := x
      cases a with
      | nil => exact .tail _ he
      | cons c t => exact he
  refine ⟨grp_ne _ _ (Nat.le_refl _) p hp, grp_rise _ _ (Nat.le_refl _) h2 h1 p hp, fun e he => ?_⟩
  have := hl _ (hsub _ (grp_mem h2 hp he))
  simp only [pre, List.length_cons] at this
  omega
theorem fins_shift (S : List En) (arcs : List Arc) : shift (-least S) S = fins ⟨finOf S, outOf S, arcs⟩ ++ shift (-least S) (restOf S) := by
  cases S with
  | nil => rfl
  | cons e r =>
    obtain ⟨x, n⟩ := e
    cases x with
    | nil => simp only [finOf, outOf, fins, restOf, shift, if_true, List.map_cons, List.cons_append, List.nil_append, Int.sub_eq_add_neg]
    | cons c t => rfl
theorem outs_labels {D : List (List En)} {arcs : List Arc} {gs : List (Int × List En)} {n : Int} (h : outs D arcs = gs.map fun p => (p.1, shift n p.2)) (hp : gs.Pairwise fun p q => p.1 < q.1) : arcs.Pairwise fun a b => a.label < b.label := by
  have h2 : (outs D arcs).map (·.1) = gs.map (·.1) := by rw [h, List.map_map]; rfl
  have h3 : (outs D arcs).map (·.1) = arcs.map (·.label) := by unfold outs; rw [List.map_map]; rfl
  rw [h3] at h2
  have h4 : (gs.map (·.1)).Pairwise (· < ·) := by rw [List.pairwise_map]; exact hp
  rw [← h2, List.pairwise_map] at h4
  exact h4
theorem stF_spec : ∀ (f : Nat) (D : List (List En)) (b : List St) (S : List En), Inv D b → Good f S → ∃ D', Mkd D S b (stF f b S) D'
  | 0, _, _, S, _, h => by
    obtain ⟨h0, _, h2⟩ := h
    cases S with
    | nil => exact absurd rfl h0
    | cons e r => exact absurd (h2 e (by simp)) (by omega)
  | f + 1, D, b, S, hI, hG => by
    obtain ⟨hr1, hr2⟩ := rise_rest hG.2.1
    have hgg := good_groups hG
    have hfl := flat_grp _ (restOf S) (Nat.le_refl _) hr2
    have hlab := (grp_labels _ (restOf S) (Nat.le_refl _) hr2 hr1).1
    obtain ⟨D1, M⟩ := arF_spec (base := least S) (stF_spec f) (grp (restOf S)) D b hI hgg
    rw [stF]
    generalize arF (stF f) (least S) b (grp (restOf S)) = q at M
    obtain ⟨b1, arcs⟩ := q
    simp only at M ⊢
    obtain ⟨s, hs⟩ : ∃ s : St, s = ⟨finOf S, outOf S, arcs⟩ := ⟨_, rfl⟩
    rw [← hs]
    have hcan : Canon D1 s := by
      rw [hs]
      refine ⟨outs_labels M.outs hlab, M.to, fun h => ?_⟩
      cases S with
      | nil => rfl
      | cons e r =>
        obtain ⟨x, n⟩ := e
        cases x with
        | nil => cases h
        | cons c t => rfl
    have hexp : exp D1 s = level S := by
      rw [exp, level, fins_shift S arcs, hs, M.outs, ← flat_shift, hfl]
    have hlen : D1.length = b1.length := M.inv.len
    have hold : ∀ i, D[i]? = some (level S) → b1 = b ∧ D1 = D ∧ b[i]? = some s := fun i hi => by
      have hil := (List.getElem?_eq_some_iff.1 hi).1
      obtain ⟨t, ht⟩ : ∃ t, b[i]? = some t := ⟨b[i]'(by have := hI.len; omega), List.getElem?_eq_getElem _⟩
      obtain ⟨e1, e2, ct⟩ := hI.row i t ht
      rw [hi] at e1
      have e1' : level S = exp D t := Option.some.inj e1
      obtain ⟨g1, g2⟩ := exp_grp hI.lv ct
      rw [← e1', level, restOf_shift, grp_shift] at g2
      have hall : ∀ p ∈ grp (restOf S), level p.2 ∈ D := fun p hp => by
        have hp' : (p.1, shift (-least S) p.2) ∈ outs D t.arcs := by rw [← g2]; exact List.mem_map.2 ⟨p, hp, rfl⟩
        obtain ⟨a, ha, hae⟩ := List.mem_map.1 hp'
        have hal := ct.to a ha
        rw [List.getElem?_eq_getElem hal] at hae
        simp only [Option.getD_some, Prod.mk.injEq] at hae
        have hv := hI.lv _ (List.getElem_mem hal)
        have : level p.2 = D[a.to] := by
          rw [← level_shift (-least S) (hgg p hp).1, ← hae.2, level_shift _ hv.1, level_of hv.2]
        rw [this]
        exact List.getElem_mem _
      obtain ⟨h1, h2⟩ := M.old hall
      refine ⟨h1, h2, ?_⟩
      rw [h2] at hexp hcan
      rw [ht, exp_inj hI.nd hI.lv ct hcan (e1'.symm.trans hexp.symm)]
    unfold numSt
    by_cases hmem : s ∈ b1
    · rw [if_pos hmem]
      have hidx := List.idxOf_lt_length_of_mem hmem
      have hat : b1[b1.idxOf s]? = some s := by rw [List.getElem?_eq_getElem hidx, List.getElem_idxOf]
      obtain ⟨e1, _, _⟩ := M.inv.row _ s hat
      rw [hexp] at e1
      refine ⟨D1, M.inv, M.ext, e1, fun i hi => ?_, fun R hR => ?_, fun R hR => ?_⟩
      · obtain ⟨h1, h2, h3⟩ := hold i hi
        refine ⟨?_, h2⟩
        subst h1
        rw [h2] at e1
        have hi2 := (List.getElem?_eq_some_iff.1 hi).1
        have hi3 := (List.getElem?_eq_some_iff.1 e1).1
        have : b1.idxOf s = i := nodup_getD hI.nd hi3 hi2 (by rw [e1, hi])
        rw [this]
      · rcases M.sub R hR with h | ⟨p, hp, h⟩
        · exact .inl h
        · exact .inr (.step hp h)
      · cases hR with
        | here => exact List.mem_of_getElem? e1
        | step hp h => exact M.all _ hp R h
    · rw [if_neg hmem]
      have hnew : level S ∉ D1 := fun h => by
        obtain ⟨j, hj⟩ := List.mem_iff_getElem?.1 h
        have hjl := (List.getElem?_eq_some_iff.1 hj).1
        obtain ⟨t, ht⟩ : ∃ t, b1[j]? = some t := ⟨b1[j]'(by omega), List.getElem?_eq_getElem _⟩
        obtain ⟨e1, _, ct⟩ := M.inv.row j t ht
        rw [hj] at e1
        have : s = t := exp_inj M.inv.nd M.inv.lv hcan ct (hexp.trans (Option.some.inj e1))
        exact hmem (this ▸ List.mem_of_getElem? ht)
      have hpre : D1 <+: D1 ++ [level S] := List.prefix_append _ _
      refine ⟨D1 ++ [level S], ⟨by simp [hlen], fun i t hi => ?_, ?_, fun R hR => ?_⟩, M.ext.trans hpre, ?_, fun i hi => ?_, fun R hR => ?_, fun R hR => ?_⟩
      · by_cases hib : i < b1.length
        · rw [List.getElem?_append_left hib] at hi
          obtain ⟨e1, e2, ct⟩ := M.inv.row i t hi
          refine ⟨?_, e2, ct.pre hpre⟩
          rw [pre_get hpre (by omega), e1, exp_pre hpre ct.to]
        · rw [List.getElem?_append_right (by omega)] at hi
          cases hi0 : i - b1.length with
          | zero =>
            rw [hi0] at hi
            simp only [List.getElem?_cons_zero, Option.some.injEq] at hi
            subst hi
            refine ⟨?_, fun a ha => by have := hcan.to a ha; omega, hcan.pre hpre⟩
            rw [exp_pre hpre hcan.to, hexp, List.getElem?_append_right (by omega), hlen, hi0]
            rfl
          | succ j => rw [hi0] at hi; simp at hi
      · rw [List.nodup_append]
        exact ⟨M.inv.nd, by simp, fun a ha c hc => by rw [List.mem_singleton.1 hc]; exact fun e => hnew (e ▸ ha)⟩
      · rcases List.mem_append.1 hR with h | h
        · exact M.inv.lv R h
        · rw [List.mem_singleton.1 h]
          exact ⟨level_ne.2 hG.1, least_level hG.1⟩
      · rw [List.getElem?_append_right (by omega), hlen]
        simp
      · obtain ⟨h1, _, h3⟩ := hold i hi
        rw [h1] at hmem
        exact absurd (List.mem_of_getElem? h3) hmem
      · rcases List.mem_append.1 hR with h | h
        · rcases M.sub R h with h | ⟨p, hp, h⟩
          · exact .inl h
          · exact .inr (.step hp h)
        · rw [List.mem_singleton.1 h]
          exact .inr (.here S)
      · cases hR with
        | here => simp
        | step hp h => exact List.mem_append_left _ (M.all _ hp R h)
end Go.Proofs.YthjlihhknaelaaaDoor.Fm

/- Cut: what the seat's translation lacks is left out. -/
/- (*builder).list. -/
namespace Go.Proofs.YthjlihhknaelaaaDoor
open Go.RowKit Nums Fm
set_option maxRecDepth 100000

theorem AOwn.at {B : Nat} {w : World} {v : Value} {l : List Arc} (h : AOwn B w v l) (h0 : 0 < l.length) : ∃ g cap, v = .slice (some ⟨g, 0, none⟩) l.length cap ∧ g < w.heap.size ∧ l.length ≤ cap ∧ (∃ cur, w.heap[g]? = some (.cells cur 58 (0, 0))) ∧
    ∀ (i : Nat) (a : Arc), l[i]? = some a → w.cell? ⟨g, i * 3, none⟩ = some (.int .i32 a.label) ∧ w.cell? ⟨g, i * 3 + 1, none⟩ = some (.int .i64 a.out) ∧ w.cell? ⟨g, i * 3 + 2, none⟩ = some (.int .i64 a.to) := by
  obtain ⟨g, cap, rfl, hg, _, hc, hx⟩ := GOwn.cell h (by simpa using h0)
  refine ⟨g, cap, by simp, hg, by simpa using hc, (GOwn.block h rfl).2, fun i a hi => ?_⟩
  have e : (l.map cellsA)[i]? = some (cellsA a) := by rw [List.getElem?_map, hi]; rfl
  exact ⟨hx i 0 _ _ e rfl, hx i 1 _ _ e rfl, hx i 2 _ _ e rfl⟩
/-- What the walk looks at in a round. -/
structure SL (g g2 lb n : Nat) (a : Arc) (w : World) : Prop where
  c : w.cell? ⟨g, 2, none⟩ = some (.map (some g2))
  l0 : w.cell? ⟨lb, 0, none⟩ = some (.int .i64 n)
  l1 : w.cell? ⟨lb, 1, none⟩ = some (.int .i32 a.label)
  l2 : w.cell? ⟨lb, 2, none⟩ = some (.int .i64 a.out)
  l3 : w.cell? ⟨lb, 3, none⟩ = some (.int .i64 a.to)
theorem SL.facts {g g2 lb n : Nat} {a : Arc} {w : World} (h : SL g g2 lb n a w) : w.cell? ⟨g, 2, none⟩ = some (.map (some g2)) ∧ w.cell? ⟨lb, 0, none⟩ = some (.int .i64 n) ∧ w.cell? ⟨lb, 1, none⟩ = some (.int .i32 a.label) ∧ w.cell? ⟨lb, 2, none⟩ = some (.int .i64 a.out) ∧ w.cell? ⟨lb, 3, none⟩ = some (.int .i64 a.to) := ⟨h.c, h.l0, h.l1, h.l2, h.l3⟩
end Go.Proofs.YthjlihhknaelaaaDoor

/- Cut: what the seat's translation lacks is left out. -/
/- (*builder).number. -/
namespace Go.Proofs.YthjlihhknaelaaaDoor
open Go.RowKit Nums Fm
set_option maxRecDepth 100000

/-- Three cells of a block that is there. -/
structure TriAt (w : World) (b : Nat) (x y z : Value) : Prop where
  c0 : w.cell? ⟨b, 0, none⟩ = some x
  c1 : w.cell? ⟨b, 1, none⟩ = some y
  c2 : w.cell? ⟨b, 2, none⟩ = some z
theorem TriAt.of {w : World} {b : Nat} {x y z : Value} {T : TypeId} {q : Nat × Nat} (h : w.heap[b]? = some (.cells #[x, y, z] T q)) : TriAt w b x y z := ⟨by simp [World.cell?, h], by simp [World.cell?, h], by simp [World.cell?, h]⟩
theorem TriAt.same {w w' : World} {b : Nat} {x y z : Value} (h : TriAt w b x y z) (e : w'.heap[b]? = w.heap[b]?) : TriAt w' b x y z :=
  ⟨(World.cell?_of_block (a := ⟨b, 0, none⟩) e).trans h.c0, (World.cell?_of_block (a := ⟨b, 1, none⟩) e).trans h.c1, (World.cell?_of_block (a := ⟨b, 2, none⟩) e).trans h.c2⟩
theorem TriAt.facts {w : World} {b : Nat} {x y z : Value} (h : TriAt w b x y z) : w.cell? ⟨b, 0, none⟩ = some x ∧ w.cell? ⟨b, 1, none⟩ = some y ∧ w.cell? ⟨b, 2, none⟩ = some z := ⟨h.c0, h.c1, h.c2⟩
theorem set_other (w : World) (b o : Nat) (x : Value) {k : Nat} (hk : k ≠ b) : (w.setCell ⟨b, o, none⟩ x).heap[k]? = w.heap[k]? := by
  show (w.heap.modify b _)[k]? = _
  rw [Array.getElem?_modify, if_neg (Ne.symm hk)]
theorem set_at {w : World} {b o : Nat} {cur : Array Value} {T : TypeId} {q : Nat × Nat} (h : w.heap[b]? = some (.cells cur T q)) (x : Value) : (w.setCell ⟨b, o, none⟩ x).heap[b]? = some (.cells (cur.setIfInBounds o x) T q) := by
  show (w.heap.modify b _)[b]? = _
  rw [Array.getElem?_modify, if_pos rfl, h]
  rfl
theorem set_rest (w : World) (b o : Nat) (x : Value) : (w.setCell ⟨b, o, none⟩ x).os = w.os ∧ (w.setCell ⟨b, o, none⟩ x).tape = w.tape ∧ (w.setCell ⟨b, o, none⟩ x).output = w.output ∧ (w.setCell ⟨b, o, none⟩ x).heap.size = w.heap.size := by
  refine ⟨rfl, rfl, rfl, ?_⟩
  show (w.heap.modify b _).size = _
  rw [Array.size_modify]
/-- A block of three cells written whole. -/
def tri (w : World) (b : Nat) (x y z : Value) : World := ((w.setCell ⟨b, 0, none⟩ x).setCell ⟨b, 1, none⟩ y).setCell ⟨b, 2, none⟩ z
theorem tri_at {w : World} {b : Nat} {a0 a1 a2 : Value} {T : TypeId} {q : Nat × Nat} (h : w.heap[b]? = some (.cells #[a0, a1, a2] T q)) (x y z : Value) : (tri w b x y z).heap[b]? = some (.cells #[x, y, z] T q) := by
  unfold tri
  rw [set_at (set_at (set_at h x) y) z]
  rfl
theorem tri_upd (w : World) (b : Nat) (x y z : Value) : Upd (fun k => k = b) w (tri w b x y z) := by
  have h1 := set_rest w b 0 x
  have h2 := set_rest (w.setCell ⟨b, 0, none⟩ x) b 1 y
  have h3 := set_rest ((w.setCell ⟨b, 0, none⟩ x).setCell ⟨b, 1, none⟩ y) b 2 z
  refine ⟨h3.1.trans (h2.1.trans h1.1), h3.2.1.trans (h2.2.1.trans h1.2.1), h3.2.2.1.trans (h2.2.2.1.trans h1.2.2.1), Nat.le_of_eq (h3.2.2.2.trans (h2.2.2.2.trans h1.2.2.2)).symm, fun k _ hk => ?_⟩
  unfold tri
  rw [set_other _ _ _ _ hk, set_other _ _ _ _ hk, set_other _ _ _ _ hk]
section
variable {A : Nat → Prop} {E g g1 g2 : Nat} {w w' : World} {vs : Value} {b : List St} {m1 : List (SK × Nat)} {m2 : List (LK × Nat)} {D : List (List Arc)}
end
/-- What region 5 looks at. -/
structure S5 (g g1 kb : Nat) (x y z : Value) (w : World) : Prop where
  c : w.cell? ⟨g, 1, none⟩ = some (.map (some g1))
  k : TriAt w kb x y z
theorem S5.facts {g g1 kb : Nat} {x y z : Value} {w : World} (h : S5 g g1 kb x y z w) : w.cell? ⟨g, 1, none⟩ = some (.map (some g1)) ∧ w.cell? ⟨kb, 0, none⟩ = some x ∧ w.cell? ⟨kb, 1, none⟩ = some y ∧ w.cell? ⟨kb, 2, none⟩ = some z := ⟨h.c, h.k.c0, h.k.c1, h.k.c2⟩
/-- What region 6 looks at. -/
structure S6 (g bs : Nat) (vs x y z : Value) (w : World) : Prop where
  c : w.cell? ⟨g, 0, none⟩ = some vs
  k : TriAt w bs x y z
theorem S6.facts {g bs : Nat} {vs x y z : Value} {w : World} (h : S6 g bs vs x y z w) : w.cell? ⟨g, 0, none⟩ = some vs ∧ w.cell? ⟨bs, 0, none⟩ = some x ∧ w.cell? ⟨bs, 1, none⟩ = some y ∧ w.cell? ⟨bs, 2, none⟩ = some z := ⟨h.c, h.k.c0, h.k.c1, h.k.c2⟩
end Go.Proofs.YthjlihhknaelaaaDoor

/- Cut: what the seat's translation lacks is left out. -/
/- (*builder).number, walked. -/
namespace Go.Proofs.YthjlihhknaelaaaDoor
open Go.RowKit Nums Fm
set_option maxRecDepth 100000


theorem exec_app {P : Program} {ρ : Operand → Value} {x y : Operand} {t : TypeId} {dst : Option Tmp} {ty : TypeId} {pos : String} {af : Array Edge} {g : Option (Nat × Bool)} {w w' : World} {v : Value} (h : (Builtin.append_ #[t, t] ty #[ρ x, ρ y]).run P w = .ok v w') :
    (execOp ρ ⟨dst, .call { callee := .builtin .append, args := #[x, y], argTypes := #[t, t] }, ty, pos, af, g⟩).run P w = .ok (.value v) w' := by
  simp only [execOp, resolve, invoke, builtin, Sem.run_bind, Sem.run_pure, Result.andThen_ok, List.map_toArray, List.map_cons, List.map_nil, h]

end Go.Proofs.YthjlihhknaelaaaDoor
