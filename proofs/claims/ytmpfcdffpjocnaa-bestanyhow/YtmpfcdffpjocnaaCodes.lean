/- A rune's writing, read again: plain numbers and lists; no program is named here. -/
import Derived.Test.YtmpfcdffpjocnaaTexts
import Derived.Laws.BytesArg
namespace Go.Proofs.Ytmpfcdffpjocnaa.Nums

def u8 (n : Int) : UInt8 := UInt8.ofNat n.toNat
/-- A rune's writing. -/
def wr (r : Int) : List UInt8 := (wrI r).map u8
theorem u8_val {x : Int} (h0 : 0 ≤ x) (h : x < 256) : ((u8 x).toNat : Int) = x := by
  unfold u8
  rw [UInt8.toNat_ofNat_of_lt' (by show x.toNat < 256; omega)]
  omega
theorem u8_back (b : UInt8) {x : Int} (h : x = (b.toNat : Int)) : u8 x = b := by
  subst h; unfold u8; simp
theorem bt_zero (b : UInt8) (l : List UInt8) : bt (b :: l) 0 = (b.toNat : Int) := rfl
theorem bt_succ (b : UInt8) (l : List UInt8) (i : Nat) : bt (b :: l) (i + 1) = bt l i := rfl
theorem wr_len (r : Int) : (wr r).length = (wrI r).length := by simp [wr]

theorem rd_wr {r : Int} (h : isR r = true) (t : List UInt8) : rd (wr r ++ t) = (r, (wrI r).length) := by
  have hb := of_decide_eq_true h
  by_cases a : r < 128
  · have e : wr r = [u8 r] := by unfold wr; rw [wrI1 a]; rfl
    have v := u8_val (x := r) (by omega) (by omega)
    rw [e, wrI1 a, rd_one (by show ((u8 r).toNat : Int) < 128; omega)]
    show (((u8 r).toNat : Int), 1) = _
    rw [v]; rfl
  by_cases b : r < 2048
  · have e : wr r = [u8 (192 + r / 64), u8 (128 + r % 64)] := by unfold wr; rw [wrI2 (by omega) b]; rfl
    have v0 := u8_val (x := 192 + r / 64) (by omega) (by omega)
    have v1 := u8_val (x := 128 + r % 64) (by omega) (by omega)
    rw [e, wrI2 (by omega) b]
    generalize hl : [u8 (192 + r / 64), u8 (128 + r % 64)] ++ t = l
    have b0 : bt l 0 = 192 + r / 64 := by rw [← hl]; exact v0
    have b1 : bt l 1 = 128 + r % 64 := by rw [← hl]; exact v1
    have hn : 2 ≤ l.length := by rw [← hl]; simp
    have ha : acc (ldOf 2) l 2 = r := by show acc 192 l 2 = r; rw [acc2, b0, b1]; omega
    rw [rd_yes (n := 2) (by omega) (by omega) (by rw [b0]; unfold ldSz; rw [if_neg (by omega), if_neg (by omega), if_pos (by omega)]; rfl) hn
      (fun j x y => by obtain rfl : j = 1 := by omega
                       rw [b1]; omega) (by rw [ha]; show (128 : Int) ≤ r; omega) (by rw [ha]; exact h), ha]
    rfl
  by_cases c : r < 65536
  · have e : wr r = [u8 (224 + r / 64 / 64), u8 (128 + r / 64 % 64), u8 (128 + r % 64)] := by unfold wr; rw [wrI3 (by omega) c]; rfl
    have v0 := u8_val (x := 224 + r / 64 / 64) (by omega) (by omega)
    have v1 := u8_val (x := 128 + r / 64 % 64) (by omega) (by omega)
    have v2 := u8_val (x := 128 + r % 64) (by omega) (by omega)
    rw [e, wrI3 (by omega) c]
    generalize hl : [u8 (224 + r / 64 / 64), u8 (128 + r / 64 % 64), u8 (128 + r % 64)] ++ t = l
    have b0 : bt l 0 = 224 + r / 64 / 64 := by rw [← hl]; exact v0
    have b1 : bt l 1 = 128 + r / 64 % 64 := by rw [← hl]; exact v1
    have b2 : bt l 2 = 128 + r % 64 := by rw [← hl]; exact v2
    have hn : 3 ≤ l.length := by rw [← hl]; simp
    have ha : acc (ldOf 3) l 3 = r := by show acc 224 l 3 = r; rw [acc3, b0, b1, b2]; omega
    rw [rd_yes (n := 3) (by omega) (by omega) (by rw [b0]; unfold ldSz; rw [if_neg (by omega), if_neg (by omega), if_neg (by omega), if_pos (by omega)]; rfl) hn
      (fun j x y => by obtain rfl | rfl : j = 1 ∨ j = 2 := by omega
                       · rw [b1]; omega
                       · rw [b2]; omega) (by rw [ha]; show (2048 : Int) ≤ r; omega) (by rw [ha]; exact h), ha]
    rfl
  · have e : wr r = [u8 (240 + r / 64 / 64 / 64), u8 (128 + r / 64 / 64 % 64), u8 (128 + r / 64 % 64), u8 (128 + r % 64)] := by unfold wr; rw [wrI4 (by omega)]; rfl
    have v0 := u8_val (x := 240 + r / 64 / 64 / 64) (by omega) (by omega)
    have v1 := u8_val (x := 128 + r / 64 / 64 % 64) (by omega) (by omega)
    have v2 := u8_val (x := 128 + r / 64 % 64) (by omega) (by omega)
    have v3 := u8_val (x := 128 + r % 64) (by omega) (by omega)
    rw [e, wrI4 (by omega)]
    generalize hl : [u8 (240 + r / 64 / 64 / 64), u8 (128 + r / 64 / 64 % 64), u8 (128 + r / 64 % 64), u8 (128 + r % 64)] ++ t = l
    have b0 : bt l 0 = 240 + r / 64 / 64 / 64 := by rw [← hl]; exact v0
    have b1 : bt l 1 = 128 + r / 64 / 64 % 64 := by rw [← hl]; exact v1
    have b2 : bt l 2 = 128 + r / 64 % 64 := by rw [← hl]; exact v2
    have b3 : bt l 3 = 128 + r % 64 := by rw [← hl]; exact v3
    have hn : 4 ≤ l.length := by rw [← hl]; simp
    have ha : acc (ldOf 4) l 4 = r := by show acc 240 l 4 = r; rw [acc4, b0, b1, b2, b3]; omega
    rw [rd_yes (n := 4) (by omega) (by omega) (by rw [b0]; unfold ldSz; rw [if_neg (by omega), if_neg (by omega), if_neg (by omega), if_neg (by omega), if_pos (by omega)]; rfl) hn
      (fun j x y => by obtain rfl | rfl | rfl : j = 1 ∨ j = 2 ∨ j = 3 := by omega
                       · rw [b1]; omega
                       · rw [b2]; omega
                       · rw [b3]; omega) (by rw [ha]; show (65536 : Int) ≤ r; omega) (by rw [ha]; exact h), ha]
    rfl

theorem take1 {l : List UInt8} (h : l ≠ []) : [u8 (bt l 0)] ++ l.drop 1 = l := by
  cases l with
  | nil => exact absurd rfl h
  | cons b t => simp [u8_back b (bt_zero b t)]
theorem take2 {l : List UInt8} (h : 2 ≤ l.length) : [u8 (bt l 0), u8 (bt l 1)] ++ l.drop 2 = l := by
  cases l with
  | nil => simp at h
  | cons b t =>
    have := take1 (l := t) (by intro e; subst e; simp at h)
    simp [u8_back b (bt_zero b t), bt_succ b t 0] at *
    exact this
theorem take3 {l : List UInt8} (h : 3 ≤ l.length) : [u8 (bt l 0), u8 (bt l 1), u8 (bt l 2)] ++ l.drop 3 = l := by
  cases l with
  | nil => simp at h
  | cons b t =>
    have := take2 (l := t) (by simpa using h)
    simp [u8_back b (bt_zero b t), bt_succ b t 0, bt_succ b t 1] at *
    exact this
theorem take4 {l : List UInt8} (h : 4 ≤ l.length) : [u8 (bt l 0), u8 (bt l 1), u8 (bt l 2), u8 (bt l 3)] ++ l.drop 4 = l := by
  cases l with
  | nil => simp at h
  | cons b t =>
    have := take3 (l := t) (by simpa using h)
    simp [u8_back b (bt_zero b t), bt_succ b t 0, bt_succ b t 1, bt_succ b t 2] at *
    exact this

theorem rd_back {l : List UInt8} (hl : l ≠ []) {r : Int} {n : Nat} (h : rd l = (r, n)) (hn : n ≠ 0) : isR r = true ∧ n = (wrI r).length ∧ l = wr r ++ l.drop n := by
  have hr : isR r = true := by have := rd_isR (l := l) (by rw [h]; exact hn); rw [h] at this; exact this
  have hbd := of_decide_eq_true hr
  have c0 := bt_bd l 0
  refine ⟨hr, ?_⟩
  revert h
  unfold rd
  by_cases a : bt l 0 < 128
  · rw [if_pos a]
    intro e
    obtain ⟨rfl, rfl⟩ := Prod.mk.inj e
    refine ⟨by rw [wrI1 a]; rfl, ?_⟩
    unfold wr
    rw [wrI1 a]
    exact (take1 hl).symm
  rw [if_neg a]
  split
  · rename_i c
    intro e
    obtain ⟨rfl, rfl⟩ := Prod.mk.inj e
    rw [acc2] at *
    have e1 := wrI2 (r := (bt l 0 - 192) * 64 + (bt l 1 - 128)) (by omega) (by omega)
    refine ⟨by rw [e1]; rfl, ?_⟩
    unfold wr
    rw [e1]
    have f0 : 192 + ((bt l 0 - 192) * 64 + (bt l 1 - 128)) / 64 = bt l 0 := by omega
    have f1 : 128 + ((bt l 0 - 192) * 64 + (bt l 1 - 128)) % 64 = bt l 1 := by omega
    rw [f0, f1]
    exact (take2 c.2.2.1).symm
  split
  · rename_i c
    intro e
    obtain ⟨rfl, rfl⟩ := Prod.mk.inj e
    rw [acc3] at *
    have e1 := wrI3 (r := ((bt l 0 - 224) * 64 + (bt l 1 - 128)) * 64 + (bt l 2 - 128)) (by omega) (by omega)
    refine ⟨by rw [e1]; rfl, ?_⟩
    unfold wr
    rw [e1]
    have f0 : 224 + (((bt l 0 - 224) * 64 + (bt l 1 - 128)) * 64 + (bt l 2 - 128)) / 64 / 64 = bt l 0 := by omega
    have f1 : 128 + (((bt l 0 - 224) * 64 + (bt l 1 - 128)) * 64 + (bt l 2 - 128)) / 64 % 64 = bt l 1 := by omega
    have f2 : 128 + (((bt l 0 - 224) * 64 + (bt l 1 - 128)) * 64 + (bt l 2 - 128)) % 64 = bt l 2 := by omega
    rw [f0, f1, f2]
    exact (take3 c.2.2.1).symm
  split
  · rename_i c
    intro e
    obtain ⟨rfl, rfl⟩ := Prod.mk.inj e
    rw [acc4] at *
    have e1 := wrI4 (r := (((bt l 0 - 240) * 64 + (bt l 1 - 128)) * 64 + (bt l 2 - 128)) * 64 + (bt l 3 - 128)) (by omega)
    refine ⟨by rw [e1]; rfl, ?_⟩
    unfold wr
    rw [e1]
    have f0 : 240 + ((((bt l 0 - 240) * 64 + (bt l 1 - 128)) * 64 + (bt l 2 - 128)) * 64 + (bt l 3 - 128)) / 64 / 64 / 64 = bt l 0 := by omega
    have f1 : 128 + ((((bt l 0 - 240) * 64 + (bt l 1 - 128)) * 64 + (bt l 2 - 128)) * 64 + (bt l 3 - 128)) / 64 / 64 % 64 = bt l 1 := by omega
    have f2 : 128 + ((((bt l 0 - 240) * 64 + (bt l 1 - 128)) * 64 + (bt l 2 - 128)) * 64 + (bt l 3 - 128)) / 64 % 64 = bt l 2 := by omega
    have f3 : 128 + ((((bt l 0 - 240) * 64 + (bt l 1 - 128)) * 64 + (bt l 2 - 128)) * 64 + (bt l 3 - 128)) % 64 = bt l 3 := by omega
    rw [f0, f1, f2, f3]
    exact (take4 c.2.2.1).symm
  intro e
  exact absurd (Prod.mk.inj e).2.symm hn

/-- No writing is the beginning of another one's. -/
theorem wr_apart {a b : Int} (ha : isR a = true) (hb : isR b = true) (t : List UInt8) (h : wr a = wr b ++ t) : a = b := by
  have h1 := rd_wr ha []
  have h2 := rd_wr hb t
  rw [List.append_nil, h] at h1
  exact (Prod.mk.inj (h1.symm.trans h2)).1
end Go.Proofs.Ytmpfcdffpjocnaa.Nums
