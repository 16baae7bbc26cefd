/- Texts that were written apart, joined. -/
import Derived.Test.YtncnefpkfbngaaaGreatDoorJ1
import Derived.Laws.BytesArg
import Derived.Test.YtncnefpkfbngaaaGreatDoorFMath2
/- A rune's writing, read again: plain numbers and lists; no program is named here. -/
namespace Go.Proofs.YtncnefpkfbngaaaGreatDoor.Nums

def u8 (n : Int) : UInt8 := UInt8.ofNat n.toNat
/-- A rune's writing. -/
def wr (r : Int) : List UInt8 := (wrI r).map u8
theorem u8_val {x : Int} (h0 : 0 ≤ x) (h : x < 256) : ((u8 x).toNat : Int) = x := by
 unfold u8
 rw [UInt8.toNat_ofNat_of_lt' (by show x.toNat < 256; omega)]
 omega
theorem u8_back (b : UInt8) {x : Int} (h : x = (b.toNat : Int)) : u8 x = b := by
 subst h; unfold u8; simp
theorem bt_zero (b : UInt8) (l : List UInt8) : bt (b :: l) 0 = (b.toNat : Int) := rfl
theorem bt_succ (b : UInt8) (l : List UInt8) (i : Nat) : bt (b :: l) (i + 1) = bt l i := rfl
theorem wr_len (r : Int) : (wr r).length = (wrI r).length := by simp [wr]

theorem rd_wr {r : Int} (h : isR r = true) (t : List UInt8) : rd (wr r ++ t) = (r, (wrI r).length) := by
 have hb := of_decide_eq_true h
 by_cases a : r < 128
 · have e : wr r = [u8 r] := by unfold wr; rw [wrI1 a]; rfl
   have v := u8_val (x := r) (by omega) (by omega)
   rw [e, wrI1 a, rd_one (by show ((u8 r).toNat : Int) < 128; omega)]
   show (((u8 r).toNat : Int), 1) = _
   rw [v]; rfl
 by_cases b : r < 2048
 · have e : wr r = [u8 (192 + r / 64), u8 (128 + r % 64)] := by unfold wr; rw [wrI2 (by omega) b]; rfl
   have v0 := u8_val (x := 192 + r / 64) (by omega) (by omega)
   have v1 := u8_val (x := 128 + r % 64) (by omega) (by omega)
   rw [e, wrI2 (by omega) b]
   generalize hl : [u8 (192 + r / 64), u8 (128 + r % 64)] ++ t = l
   have b0 : bt l 0 = 192 + r / 64 := by rw [← hl]; exact v0
   have b1 : bt l 1 = 128 + r % 64 := by rw [← hl]; exact v1
   have hn : 2 ≤ l.length := by rw [← hl]; simp
   have ha : acc (ldOf 2) l 2 = r := by show acc 192 l 2 = r; rw [acc2, b0, b1]; omega
   rw [rd_yes (n := 2) (by omega) (by omega) (by rw [b0]; unfold ldSz; rw [if_neg (by omega), if_neg (by omega), if_pos (by omega)]; rfl) hn
    (fun j x y => by obtain rfl : j = 1 := by omega
                     rw [b1]; omega) (by rw [ha]; show (128 : Int) ≤ r; omega) (by rw [ha]; exact h), ha]
   rfl
 by_cases c : r < 65536
 · have e : wr r = [u8 (224 + r / 64 / 64), u8 (128 + r / 64 % 64), u8 (128 + r % 64)] := by unfold wr; rw [wrI3 (by omega) c]; rfl
   have v0 := u8_val (x := 224 + r / 64 / 64) (by omega) (by omega)
   have v1 := u8_val (x := 128 + r / 64 % 64) (by omega) (by omega)
   have v2 := u8_val (x := 128 + r % 64) (by omega) (by omega)
   rw [e, wrI3 (by omega) c]
   generalize hl : [u8 (224 + r / 64 / 64), u8 (128 + r / 64 % 64), u8 (128 + r % 64)] ++ t = l
   have b0 : bt l 0 = 224 + r / 64 / 64 := by rw [← hl]; exact v0
   have b1 : bt l 1 = 128 + r / 64 % 64 := by rw [← hl]; exact v1
   have b2 : bt l 2 = 128 + r % 64 := by rw [← hl]; exact v2
   have hn : 3 ≤ l.length := by rw [← hl]; simp
   have ha : acc (ldOf 3) l 3 = r := by show acc 224 l 3 = r; rw [acc3, b0, b1, b2]; omega
   rw [rd_yes (n := 3) (by omega) (by omega) (by rw [b0]; unfold ldSz; rw [if_neg (by omega), if_neg (by omega), if_neg (by omega), if_pos (by omega)]; rfl) hn
    (fun j x y => by obtain rfl | rfl : j = 1 ∨ j = 2 := by omega
                     · rw [b1]; omega
                     · rw [b2]; omega) (by rw [ha]; show (2048 : Int) ≤ r; omega) (by rw [ha]; exact h), ha]
   rfl
 · have e : wr r = [u8 (240 + r / 64 / 64 / 64), u8 (128 + r / 64 / 64 % 64), u8 (128 + r / 64 % 64), u8 (128 + r % 64)] := by unfold wr; rw [wrI4 (by omega)]; rfl
   have v0 := u8_val (x := 240 + r / 64 / 64 / 64) (by omega) (by omega)
   have v1 := u8_val (x := 128 + r / 64 / 64 % 64) (by omega) (by omega)
   have v2 := u8_val (x := 128 + r / 64 % 64) (by omega) (by omega)
   have v3 := u8_val (x := 128 + r % 64) (by omega) (by omega)
   rw [e, wrI4 (by omega)]
   generalize hl : [u8 (240 + r / 64 / 64 / 64), u8 (128 + r / 64 / 64 % 64), u8 (128 + r / 64 % 64), u8 (128 + r % 64)] ++ t = l
   have b0 : bt l 0 = 240 + r / 64 / 64 / 64 := by rw [← hl]; exact v0
   have b1 : bt l 1 = 128 + r / 64 / 64 % 64 := by rw [← hl]; exact v1
   have b2 : bt l 2 = 128 + r / 64 % 64 := by rw [← hl]; exact v2
   have b3 : bt l 3 = 128 + r % 64 := by rw [← hl]; exact v3
   have hn : 4 ≤ l.length := by rw [← hl]; simp
   have ha : acc (ldOf 4) l 4 = r := by show acc 240 l 4 = r; rw [acc4, b0, b1, b2, b3]; omega
   rw [rd_yes (n := 4) (by omega) (by omega) (by rw [b0]; unfold ldSz; rw [if_neg (by omega), if_neg (by omega), if_neg (by omega), if_neg (by omega), if_pos (by omega)]; rfl) hn
    (fun j x y => by obtain rfl | rfl | rfl : j = 1 ∨ j = 2 ∨ j = 3 := by omega
                     · rw [b1]; omega
                     · rw [b2]; omega
                     · rw [b3]; omega) (by rw [ha]; show (65536 : Int) ≤ r; omega) (by rw [ha]; exact h), ha]
   rfl

theorem take1 {l : List UInt8} (h : l ≠ []) : [u8 (bt l 0)] ++ l.drop 1 = l := by
 cases l with
 | nil => exact absurd rfl h
 | cons b t => simp [u8_back b (bt_zero b t)]
theorem take2 {l : List UInt8} (h : 2 ≤ l.length) : [u8 (bt l 0), u8 (bt l 1)] ++ l.drop 2 = l := by
 cases l with
 | nil => simp at h
 | cons b t =>
  have := take1 (l := t) (by intro e; subst e; simp at h)
  simp [u8_back b (bt_zero b t), bt_succ b t 0] at *
  exact this
theorem take3 {l : List UInt8} (h : 3 ≤ l.length) : [u8 (bt l 0), u8 (bt l 1), u8 (bt l 2)] ++ l.drop 3 = l := by
 cases l with
 | nil => simp at h
 | cons b t =>
  have := take2 (l := t) (by simpa using h)
  simp [u8_back b (bt_zero b t), bt_succ b t 0, bt_succ b t 1] at *
  exact this
theorem take4 {l : List UInt8} (h : 4 ≤ l.length) : [u8 (bt l 0), u8 (bt l 1), u8 (bt l 2), u8 (bt l 3)] ++ l.drop 4 = l := by
 cases l with
 | nil => simp at h
 | cons b t =>
  have := take3 (l := t) (by simpa using h)
  simp [u8_back b (bt_zero b t), bt_succ b t 0, bt_succ b t 1, bt_succ b t 2] at *
  exact this

theorem rd_back {l : List UInt8} (hl : l ≠ []) {r : Int} {n : Nat} (h : rd l = (r, n)) (hn : n ≠ 0) : isR r = true ∧ n = (wrI r).length ∧ l = wr r ++ l.drop n := by
 have hr : isR r = true := by have := rd_isR (l := l) (by rw [h]; exact hn); rw [h] at this; exact this
 have hbd := of_decide_eq_true hr
 have c0 := bt_bd l 0
 refine ⟨hr, ?_⟩
 revert h
 unfold rd
 by_cases a : bt l 0 < 128
 · rw [if_pos a]
   intro e
   obtain ⟨rfl, rfl⟩ := Prod.mk.inj e
   refine ⟨by rw [wrI1 a]; rfl, ?_⟩
   unfold wr
   rw [wrI1 a]
   exact (take1 hl).symm
 rw [if_neg a]
 split
 · rename_i c
   intro e
   obtain ⟨rfl, rfl⟩ := Prod.mk.inj e
   rw [acc2] at *
   have e1 := wrI2 (r := (bt l 0 - 192) * 64 + (bt l 1 - 128)) (by omega) (by omega)
   refine ⟨by rw [e1]; rfl, ?_⟩
   unfold wr
   rw [e1]
   have f0 : 192 + ((bt l 0 - 192) * 64 + (bt l 1 - 128)) / 64 = bt l 0 := by omega
   have f1 : 128 + ((bt l 0 - 192) * 64 + (bt l 1 - 128)) % 64 = bt l 1 := by omega
   rw [f0, f1]
   exact (take2 c.2.2.1).symm
 split
 · rename_i c
   intro e
   obtain ⟨rfl, rfl⟩ := Prod.mk.inj e
   rw [acc3] at *
   have e1 := wrI3 (r := ((bt l 0 - 224) * 64 + (bt l 1 - 128)) * 64 + (bt l 2 - 128)) (by omega) (by omega)
   refine ⟨by rw [e1]; rfl, ?_⟩
   unfold wr
   rw [e1]
   have f0 : 224 + (((bt l 0 - 224) * 64 + (bt l 1 - 128)) * 64 + (bt l 2 - 128)) / 64 / 64 = bt l 0 := by omega
   have f1 : 128 + (((bt l 0 - 224) * 64 + (bt l 1 - 128)) * 64 + (bt l 2 - 128)) / 64 % 64 = bt l 1 := by omega
   have f2 : 128 + (((bt l 0 - 224) * 64 + (bt l 1 - 128)) * 64 + (bt l 2 - 128)) % 64 = bt l 2 := by omega
   rw [f0, f1, f2]
   exact (take3 c.2.2.1).symm
 split
 · rename_i c
   intro e
   obtain ⟨rfl, rfl⟩ := Prod.mk.inj e
   rw [acc4] at *
   have e1 := wrI4 (r := (((bt l 0 - 240) * 64 + (bt l 1 - 128)) * 64 + (bt l 2 - 128)) * 64 + (bt l 3 - 128)) (by omega)
   refine ⟨by rw [e1]; rfl, ?_⟩
   unfold wr
   rw [e1]
   have f0 : 240 + ((((bt l 0 - 240) * 64 + (bt l 1 - 128)) * 64 + (bt l 2 - 128)) * 64 + (bt l 3 - 128)) / 64 / 64 / 64 = bt l 0 := by omega
   have f1 : 128 + ((((bt l 0 - 240) * 64 + (bt l 1 - 128)) * 64 + (bt l 2 - 128)) * 64 + (bt l 3 - 128)) / 64 / 64 % 64 = bt l 1 := by omega
   have f2 : 128 + ((((bt l 0 - 240) * 64 + (bt l 1 - 128)) * 64 + (bt l 2 - 128)) * 64 + (bt l 3 - 128)) / 64 % 64 = bt l 2 := by omega
   have f3 : 128 + ((((bt l 0 - 240) * 64 + (bt l 1 - 128)) * 64 + (bt l 2 - 128)) * 64 + (bt l 3 - 128)) % 64 = bt l 3 := by omega
   rw [f0, f1, f2, f3]
   exact (take4 c.2.2.1).symm
 intro e
 exact absurd (Prod.mk.inj e).2.symm hn

end Go.Proofs.YtncnefpkfbngaaaGreatDoor.Nums

/- Whole texts, written and read: plain lists; no program is named here. -/
namespace Go.Proofs.YtncnefpkfbngaaaGreatDoor.Nums

theorem pair_eta (p : Int × Nat) : p = (p.1, p.2) := by cases p; rfl
/-- What was read is written as the same text. -/
theorem rsF_write : ∀ (f : Nat) (l : List UInt8) (xs : List Int), rsF f l = some xs → xs.all isR = true ∧ xs.flatMap wr = l := by
 intro f
 induction f with
 | zero =>
  intro l xs h
  simp only [rsF] at h
  by_cases e : l = []
  · rw [if_pos e] at h; obtain rfl := Option.some.inj h; subst e; simp
  · rw [if_neg e] at h; cases h
 | succ f ih =>
  intro l xs h
  simp only [rsF] at h
  by_cases e : l = []
  · rw [if_pos e] at h; obtain rfl := Option.some.inj h; subst e; simp
  rw [if_neg e] at h
  by_cases z : (rd l).2 = 0
  · rw [if_pos z] at h; cases h
  rw [if_neg z] at h
  cases h2 : rsF f (l.drop (rd l).2) with
  | none => rw [h2] at h; cases h
  | some t =>
   rw [h2] at h
   obtain rfl := Option.some.inj h
   obtain ⟨h3, h4⟩ := ih _ _ h2
   obtain ⟨hr, _, hb⟩ := rd_back e (pair_eta (rd l)) z
   refine ⟨by simp only [List.all_cons, hr, h3, Bool.and_self], ?_⟩
   rw [List.flatMap_cons, h4]
   exact hb.symm
theorem rs_write {l : List UInt8} {xs : List Int} (h : rs l = some xs) : xs.all isR = true ∧ xs.flatMap wr = l := rsF_write _ _ _ h

theorem wr_ne (r : Int) : wr r ≠ [] := by
 intro e; have h := wr_len r; rw [e] at h; have := wrI_len r; simp at h; omega
/-- Behind a rune's writing a text is read on. -/
theorem rs_wr {r : Int} (hr : isR r = true) (t : List UInt8) : rs (wr r ++ t) = (rs t).map (fun xs => r :: xs) := by
 have h := rd_wr hr t
 have hn : wr r ++ t ≠ [] := by
  intro e; exact wr_ne r (List.append_eq_nil_iff.1 e).1
 have hl := wrI_len r
 rw [rs_cons hn (by rw [h]; show (wrI r).length ≠ 0; omega), h]
 show (rs ((wr r ++ t).drop (wrI r).length)).map _ = _
 rw [← wr_len r, List.drop_left]
/-- What was written is read as the same runes. -/
theorem rs_texts : ∀ (xs : List Int), xs.all isR = true → ∀ t, rs (xs.flatMap wr ++ t) = (rs t).map (fun ys => xs ++ ys)
 | [], _, t => by simp
 | x :: xs, h, t => by
  have h1 : isR x = true := by simp at h; exact h.1
  have h2 : xs.all isR = true := by simp at h; simpa using h.2
  rw [List.flatMap_cons, List.append_assoc, rs_wr h1, rs_texts xs h2 t]
  cases rs t <;> simp
theorem rs_text {xs : List Int} (h : xs.all isR = true) : rs (xs.flatMap wr) = some xs := by
 have := rs_texts xs h []
 rw [List.append_nil, rs_nil] at this
 simpa using this
theorem flat_bytes (xs : List Int) : (xs.flatMap wrI).map (fun n => UInt8.ofNat n.toNat) = xs.flatMap wr := by
 induction xs with
 | nil => rfl
 | cons x r ih => rw [List.flatMap_cons, List.flatMap_cons, List.map_append, ih]; rfl
end Go.Proofs.YtncnefpkfbngaaaGreatDoor.Nums

/- Rows of numbers, one ahead of the other; bytes are ordered as runes are. No program is named here. -/
namespace Go.Proofs.YtncnefpkfbngaaaGreatDoor.Nums

def lexL : List Int → List Int → Bool
 | _, [] => false
 | [], _ :: _ => true
 | a :: x, b :: y => decide (a < b) || (decide (a = b) && lexL x y)
theorem lexL_nil (x : List Int) : lexL x [] = false := by cases x <;> rfl
theorem lexL_cons (a b : Int) (x y : List Int) : lexL (a :: x) (b :: y) = (decide (a < b) || (decide (a = b) && lexL x y)) := rfl
theorem lexL_same (a : Int) (x y : List Int) : lexL (a :: x) (a :: y) = lexL x y := by simp [lexL_cons]
theorem lexL_pre : ∀ (p x y : List Int), lexL (p ++ x) (p ++ y) = lexL x y
 | [], _, _ => rfl
 | a :: p, x, y => by rw [List.cons_append, List.cons_append, lexL_same, lexL_pre p]
theorem lexL_asymm : ∀ x y : List Int, lexL x y = true → lexL y x = false
 | _, [], h => by rw [lexL_nil] at h; cases h
 | [], _ :: _, _ => rfl
 | a :: x, b :: y, h => by
  rw [lexL_cons] at h ⊢
  by_cases e : a = b
  · subst e
    simp at h ⊢
    exact lexL_asymm x y h
  · simp [e] at h
    simp
    omega
theorem lexL_at : ∀ (k : Nat) (xs ys : List Int), k < xs.length → k < ys.length → (∀ j, j < k → xs.getD j 0 = ys.getD j 0) → xs.getD k 0 ≠ ys.getD k 0 → lexL xs ys = decide (xs.getD k 0 < ys.getD k 0)
 | _, [], _, h, _, _, _ => by simp at h
 | _, _ :: _, [], _, h, _, _ => by simp at h
 | 0, a :: x, b :: y, _, _, _, hn => by
  have hn' : a ≠ b := hn
  rw [lexL_cons, decide_eq_false hn']
  simp
 | k + 1, a :: x, b :: y, h1, h2, ha, hn => by
  have e : a = b := ha 0 (by omega)
  subst e
  rw [lexL_same, lexL_at k x y (by simpa using h1) (by simpa using h2) (fun j hj => by have := ha (j + 1) (by omega); simpa using this) (by simpa using hn)]
  simp
theorem lexL_end : ∀ (k : Nat) (xs ys : List Int), k ≤ xs.length → k ≤ ys.length → (∀ j, j < k → xs.getD j 0 = ys.getD j 0) → (k = xs.length ∨ k = ys.length) → lexL xs ys = decide (xs.length < ys.length)
 | _, xs, [], _, _, _, _ => by rw [lexL_nil]; simp
 | _, [], _ :: _, _, _, _, _ => by simp [lexL]
 | 0, a :: x, b :: y, _, _, _, h => by simp at h
 | k + 1, a :: x, b :: y, h1, h2, ha, h => by
  have e : a = b := ha 0 (by omega)
  subst e
  rw [lexL_same, lexL_end k x y (by simpa using h1) (by simpa using h2) (fun j hj => by have := ha (j + 1) (by omega); simpa using this) (by simpa using h)]
  simp

/-- A byte as a number. -/
def N (c : UInt8) : Int := (c.toNat : Int)
theorem less_lex : ∀ a b : List UInt8, Op.bytesLess a b = lexL (a.map N) (b.map N)
 | _, [] => by rw [Op.bytesLess.eq_1, List.map_nil, lexL_nil]
 | [], _ :: _ => by rw [Op.bytesLess.eq_2]; rfl
 | a :: x, b :: y => by
  rw [Op.bytesLess.eq_3, List.map_cons, List.map_cons, lexL_cons, less_lex x y]
  have e1 : decide (a < b) = decide (N a < N b) := decide_eq_decide.2 (by unfold N; rw [UInt8.lt_iff_toNat_lt]; omega)
  have e2 : (a == b) = decide (N a = N b) := by
   rw [Bool.eq_iff_iff, beq_iff_eq, decide_eq_true_iff]
   unfold N
   exact ⟨fun h => by rw [h], fun h => UInt8.toNat_inj.1 (by omega)⟩
  rw [e1, e2]
theorem bt_map (l : List UInt8) (i : Nat) : (l.map N).getD i 0 = bt l i := by
 unfold bt
 rw [List.getD_eq_getElem?_getD, List.getElem?_map, List.getD_eq_getElem?_getD]
 cases l[i]? <;> rfl
theorem wr_map {r : Int} (h : isR r = true) : (wr r).map N = wrI r := by
 have hb := of_decide_eq_true h
 unfold wr
 rw [List.map_map]
 have : ∀ x ∈ wrI r, (N ∘ u8) x = x := by
  intro x hx
  refine u8_val ?_ ?_
  all_goals
   revert hx
   unfold wrI
   repeat' split
   all_goals
    intro hx
    simp at hx
    omega
 rw [List.map_congr_left this, List.map_id']

/-- A lesser rune's writing is ahead of a greater one's, whatever stands behind. -/
theorem lex_wr {x y : Int} (hx : isR x = true) (hy : isR y = true) (h : x < y) (s t : List Int) : lexL (wrI x ++ s) (wrI y ++ t) = true := by
 have bx := of_decide_eq_true hx
 have byy := of_decide_eq_true hy
 clear hx hy
 have cx : (x < 128 ∧ wrI x = [x]) ∨ (128 ≤ x ∧ x < 2048 ∧ wrI x = [192 + x / 64, 128 + x % 64]) ∨ (2048 ≤ x ∧ x < 65536 ∧ wrI x = [224 + x / 64 / 64, 128 + x / 64 % 64, 128 + x % 64]) ∨ (65536 ≤ x ∧ wrI x = [240 + x / 64 / 64 / 64, 128 + x / 64 / 64 % 64, 128 + x / 64 % 64, 128 + x % 64]) := by
  by_cases a : x < 128
  · exact .inl ⟨a, wrI1 a⟩
  by_cases b : x < 2048
  · exact .inr (.inl ⟨by omega, b, wrI2 (by omega) b⟩)
  by_cases c : x < 65536
  · exact .inr (.inr (.inl ⟨by omega, c, wrI3 (by omega) c⟩))
  · exact .inr (.inr (.inr ⟨by omega, wrI4 (by omega)⟩))
 have cy : (y < 128 ∧ wrI y = [y]) ∨ (128 ≤ y ∧ y < 2048 ∧ wrI y = [192 + y / 64, 128 + y % 64]) ∨ (2048 ≤ y ∧ y < 65536 ∧ wrI y = [224 + y / 64 / 64, 128 + y / 64 % 64, 128 + y % 64]) ∨ (65536 ≤ y ∧ wrI y = [240 + y / 64 / 64 / 64, 128 + y / 64 / 64 % 64, 128 + y / 64 % 64, 128 + y % 64]) := by
  by_cases a : y < 128
  · exact .inl ⟨a, wrI1 a⟩
  by_cases b : y < 2048
  · exact .inr (.inl ⟨by omega, b, wrI2 (by omega) b⟩)
  by_cases c : y < 65536
  · exact .inr (.inr (.inl ⟨by omega, c, wrI3 (by omega) c⟩))
  · exact .inr (.inr (.inr ⟨by omega, wrI4 (by omega)⟩))
 rcases cx with ⟨x1, ex⟩ | ⟨x0, x1, ex⟩ | ⟨x0, x1, ex⟩ | ⟨x0, ex⟩ <;> rcases cy with ⟨y1, ey⟩ | ⟨y0, y1, ey⟩ | ⟨y0, y1, ey⟩ | ⟨y0, ey⟩ <;> rw [ex, ey] <;>
  simp only [List.cons_append, List.nil_append, lexL_cons, Bool.or_eq_true, Bool.and_eq_true, decide_eq_true_eq] <;> omega

/-- Texts that are writings are ordered as their runes are. -/
theorem order_texts : ∀ (xs ys : List Int), xs.all isR = true → ys.all isR = true → lexL ((xs.flatMap wr).map N) ((ys.flatMap wr).map N) = lexL xs ys
 | xs, [], _, _ => by simp [lexL_nil]
 | [], y :: ys, _, h => by
  have hy : isR y = true := by simp at h; exact h.1
  rw [List.flatMap_cons, List.map_append, wr_map hy]
  have hl := wrI_len y
  cases e : wrI y with
  | nil => rw [e] at hl; simp at hl
  | cons a t => rfl
 | x :: xs, y :: ys, hxs, hys => by
  have hx : isR x = true := by simp at hxs; exact hxs.1
  have hy : isR y = true := by simp at hys; exact hys.1
  have hx2 : xs.all isR = true := by simp at hxs; simpa using hxs.2
  have hy2 : ys.all isR = true := by simp at hys; simpa using hys.2
  rw [List.flatMap_cons, List.flatMap_cons, List.map_append, List.map_append, wr_map hx, wr_map hy, lexL_cons]
  by_cases e : x = y
  · subst e
    rw [lexL_pre, order_texts xs ys hx2 hy2]
    simp
  by_cases l : x < y
  · rw [lex_wr hx hy l]; simp [l]
  · rw [lexL_asymm _ _ (lex_wr hy hx (by omega) _ _)]; simp [l, e]
theorem order_rs {a b : List UInt8} {xs ys : List Int} (h1 : rs a = some xs) (h2 : rs b = some ys) : lexL (a.map N) (b.map N) = lexL xs ys := by
 obtain ⟨p1, p2⟩ := rs_write h1
 obtain ⟨q1, q2⟩ := rs_write h2
 have := order_texts xs ys p1 q1
 rw [p2, q2] at this
 exact this
end Go.Proofs.YtncnefpkfbngaaaGreatDoor.Nums

/- Rests that rise: groups, and that a state can be made of them. -/
namespace Go.Proofs.YtncnefpkfbngaaaGreatDoor.Fm
open Go.Proofs.YtncnefpkfbngaaaGreatDoor.Nums

/-- Words rise. -/
def Rise (S : List En) : Prop := S.Pairwise fun a b => lexL a.1 b.1 = true
theorem lexL_ne {x y : List Int} (h : lexL x y = true) : y ≠ [] := fun e => by rw [e, lexL_nil] at h; cases h
theorem rise_rest {S : List En} (h : Rise S) : Rise (restOf S) ∧ ∀ e ∈ restOf S, e.1 ≠ [] := by
 cases S with
 | nil => exact ⟨h, fun e he => by cases he⟩
 | cons x r =>
  obtain ⟨a, n⟩ := x
  obtain ⟨h1, h2⟩ := List.pairwise_cons.1 h
  cases a with
  | nil => exact ⟨h2, fun e he => lexL_ne (h1 e he)⟩
  | cons c t =>
   refine ⟨h, fun e he => ?_⟩
   rcases List.mem_cons.1 he with rfl | he
   · simp
   · exact lexL_ne (h1 e he)
/-- A rune laid ahead. -/
def pre (c : Int) (e : En) : En := (c :: e.1, e.2)
theorem pre_hd_tl {e : En} (h : e.1 ≠ []) : pre (hd e) (tl e) = e := by
 obtain ⟨x, n⟩ := e
 cases x with
 | nil => exact absurd rfl h
 | cons c t => rfl
/-- Groups, laid back. -/
def flat (gs : List (Int × List En)) : List En := gs.flatMap fun p => p.2.map (pre p.1)
theorem lead_hd (c : Int) : ∀ (r : List En), ∀ e ∈ r.take (lead c r), hd e = c
 | [], e, h => by simp at h
 | x :: r, e, h => by
  rw [lead] at h
  split at h
  · rename_i hx
    rw [List.take_succ_cons] at h
    rcases List.mem_cons.1 h with rfl | h
    · exact hx
    · exact lead_hd c r e h
  · simp at h
theorem map_pre_tl {c : Int} : ∀ (l : List En), (∀ e ∈ l, e.1 ≠ [] ∧ hd e = c) → (l.map tl).map (pre c) = l
 | [], _ => rfl
 | e :: r, h => by
  obtain ⟨h1, h2⟩ := h e (by simp)
  rw [List.map_cons, List.map_cons, map_pre_tl r fun x hx => h x (by simp [hx]), ← h2, pre_hd_tl h1]
theorem grp_head {e : En} {r : List En} : ∀ x ∈ (e :: r).take (lead (hd e) r + 1), hd x = hd e := fun x hx => by
 rw [List.take_succ_cons] at hx
 rcases List.mem_cons.1 hx with rfl | hx
 · rfl
 · exact lead_hd _ _ x hx
theorem flat_grp : ∀ (n : Nat) (l : List En), l.length ≤ n → (∀ e ∈ l, e.1 ≠ []) → flat (grp l) = l
 | _, [], _, _ => rfl
 | 0, e :: r, h, _ => by simp at h
 | n + 1, e :: r, h, hne => by
  rw [grp_cons, flat, List.flatMap_cons, ← flat]
  rw [flat_grp n _ (by rw [List.length_drop]; simp at h ⊢; omega) (fun x hx => hne x (List.mem_of_mem_drop hx))]
  rw [map_pre_tl _ fun x hx => ⟨hne x (List.mem_of_mem_take hx), grp_head x hx⟩, List.take_append_drop]
theorem grp_ne : ∀ (n : Nat) (l : List En), l.length ≤ n → ∀ p ∈ grp l, p.2 ≠ []
 | _, [], _, _, h => by cases h
 | 0, e :: r, h, _, _ => by simp at h
 | n + 1, e :: r, h, p, hp => by
  rw [grp_cons] at hp
  rcases List.mem_cons.1 hp with rfl | hp
  · simp
  · exact grp_ne n _ (by rw [List.length_drop]; simp at h ⊢; omega) p hp
theorem grp_mem {l : List En} (hne : ∀ e ∈ l, e.1 ≠ []) {p : Int × List En} (hp : p ∈ grp l) {e : En} (he : e ∈ p.2) : pre p.1 e ∈ l := by
 rw [← flat_grp _ l (Nat.le_refl _) hne]
 exact List.mem_flatMap.2 ⟨p, hp, List.mem_map.2 ⟨e, he, rfl⟩⟩
theorem rise_tl {c : Int} {l : List En} (h : Rise l) (hc : ∀ e ∈ l, e.1 ≠ [] ∧ hd e = c) : Rise (l.map tl) := by
 unfold Rise
 rw [List.pairwise_map]
 refine List.Pairwise.imp_of_mem ?_ h
 intro a b ha hb hab
 obtain ⟨h1, h2⟩ := hc a ha
 obtain ⟨h3, h4⟩ := hc b hb
 obtain ⟨x, n⟩ := a
 obtain ⟨y, m⟩ := b
 cases x with
 | nil => exact absurd rfl h1
 | cons p x =>
  cases y with
  | nil => exact absurd rfl h3
  | cons q y =>
   have e1 : p = c := h2
   have e2 : q = c := h4
   rw [e1, e2] at hab
   show lexL x y = true
   rw [← lexL_same c x y]
   exact hab
theorem grp_rise : ∀ (n : Nat) (l : List En), l.length ≤ n → (∀ e ∈ l, e.1 ≠ []) → Rise l → ∀ p ∈ grp l, Rise p.2
 | _, [], _, _, _, _, h => by cases h
 | 0, e :: r, h, _, _, _, _ => by simp at h
 | n + 1, e :: r, h, hne, hr, p, hp => by
  rw [grp_cons] at hp
  rcases List.mem_cons.1 hp with rfl | hp
  · exact rise_tl (List.Pairwise.sublist (List.take_sublist _ _) hr) fun x hx => ⟨hne x (List.mem_of_mem_take hx), grp_head x hx⟩
  · exact grp_rise n _ (by rw [List.length_drop]; simp at h ⊢; omega) (fun x hx => hne x (List.mem_of_mem_drop hx)) (List.Pairwise.sublist (List.drop_sublist _ _) hr) p hp
/-- The heads of what rises rise. -/
theorem hd_le {a b : En} (h : lexL a.1 b.1 = true) (ha : a.1 ≠ []) : hd a ≤ hd b := by
 obtain ⟨x, n⟩ := a
 obtain ⟨y, m⟩ := b
 cases x with
 | nil => exact absurd rfl ha
 | cons p x =>
  cases y with
  | nil => rw [lexL_nil] at h; cases h
  | cons q y =>
   rw [lexL_cons] at h
   show p ≤ q
   simp only [Bool.or_eq_true, Bool.and_eq_true, decide_eq_true_eq] at h
   omega
theorem lead_stop (c : Int) : ∀ (r : List En) (x : En), r[lead c r]? = some x → hd x ≠ c
 | [], x, h => by simp at h
 | e :: r, x, h => by
  rw [lead] at h
  split at h
  · exact lead_stop c r x (by simpa using h)
  · rename_i hne
    simp at h
    subst h
    exact hne
/-- Labels rise. -/
theorem grp_labels : ∀ (n : Nat) (l : List En), l.length ≤ n → (∀ e ∈ l, e.1 ≠ []) → Rise l → (grp l).Pairwise (fun p q => p.1 < q.1) ∧ ∀ p ∈ grp l, ∃ e ∈ l, hd e = p.1
 | _, [], _, _, _ => ⟨List.Pairwise.nil, fun p h => by cases h⟩
 | 0, e :: r, h, _, _ => by simp at h
 | n + 1, e :: r, h, hne, hr => by
  obtain ⟨ih1, ih2⟩ := grp_labels n ((e :: r).drop (lead (hd e) r + 1)) (by rw [List.length_drop]; simp at h ⊢; omega) (fun x hx => hne x (List.mem_of_mem_drop hx)) (List.Pairwise.sublist (List.drop_sublist _ _) hr)
  rw [grp_cons]
  obtain ⟨hr1, hr2⟩ := List.pairwise_cons.1 hr
  have hgt : ∀ x ∈ (e :: r).drop (lead (hd e) r + 1), hd e < hd x := fun x hx => by
   rw [List.drop_succ_cons] at hx
   have hxr := List.mem_of_mem_drop hx
   have h1 := hd_le (hr1 x hxr) (hne e (by simp))
   obtain ⟨j, hj⟩ := List.mem_iff_getElem?.1 hx
   rw [List.getElem?_drop] at hj
   obtain ⟨hjl, hje⟩ := List.getElem?_eq_some_iff.1 hj
   obtain ⟨y, hy⟩ : ∃ y, r[lead (hd e) r]? = some y := ⟨r[lead (hd e) r]'(by omega), List.getElem?_eq_getElem _⟩
   have hyn := lead_stop _ _ _ hy
   obtain ⟨hyl, hye⟩ := List.getElem?_eq_some_iff.1 hy
   have hym : y ∈ r := List.mem_of_getElem? hy
   have h2 := hd_le (hr1 y hym) (hne e (by simp))
   have h3 : hd y ≤ hd x := by
    cases j with
    | zero => rw [Nat.add_zero, hy] at hj; cases hj; exact Int.le_refl _
    | succ j =>
     have := List.pairwise_iff_getElem.1 hr2 (lead (hd e) r) (lead (hd e) r + (j + 1)) hyl hjl (by omega)
     rw [hye, hje] at this
     exact hd_le this (hne y (by simp [hym]))
   omega
  refine ⟨List.pairwise_cons.2 ⟨fun p hp => ?_, ih1⟩, fun p hp => ?_⟩
  · obtain ⟨x, hx, hxe⟩ := ih2 p hp
    rw [← hxe]
    exact hgt x hx
  · rcases List.mem_cons.1 hp with rfl | hp
    · exact ⟨e, by simp, rfl⟩
    · obtain ⟨x, hx, hxe⟩ := ih2 p hp
      exact ⟨x, List.mem_of_mem_drop hx, hxe⟩
theorem ok_of_rise : ∀ (f : Nat) (S : List En), S ≠ [] → Rise S → (∀ e ∈ S, e.1.length < f) → Ok f S
 | 0, S, h, _, hl => by
  cases S with
  | nil => exact absurd rfl h
  | cons e r => exact absurd (hl e (by simp)) (by omega)
 | f + 1, S, h, hr, hl => by
  obtain ⟨h1, h2⟩ := rise_rest hr
  have hsub : ∀ e ∈ restOf S, e ∈ S := fun e he => by
   cases S with
   | nil => exact he
   | cons x r =>
    obtain ⟨a, n⟩ := x
    cases a with
    | nil => exact .tail _ he
    | cons c t => exact he
  refine ⟨h, h2, fun p hp => ok_of_rise f p.2 (grp_ne _ _ (Nat.le_refl _) p hp) (grp_rise _ _ (Nat.le_refl _) h2 h1 p hp) fun e he => ?_⟩
  have := hl _ (hsub _ (grp_mem h2 hp he))
  simp only [pre, List.length_cons] at this
  omega
end Go.Proofs.YtncnefpkfbngaaaGreatDoor.Fm
