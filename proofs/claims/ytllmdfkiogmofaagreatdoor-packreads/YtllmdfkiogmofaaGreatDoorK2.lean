/- Texts that were written apart, joined. -/
import Derived.Test.YtllmdfkiogmofaaGreatDoorG9
import Derived.Handy
/- The reference's Number. -/
namespace Go.Proofs.YtllmdfkiogmofaaGreatDoor.Cd
open Go.RowKit
set_option maxRecDepth 100000

theorem mul_step {k : Nat} (h : k < 9) : ((128 ^ k : Nat) : Int) * 128 = ((128 ^ (k + 1) : Nat) : Int) ∧ (128 : Nat) ^ k ≤ 72057594037927936 := by
  refine ⟨by rw [Nat.pow_succ]; push_cast; rfl, ?_⟩
  have : (128 : Nat) ^ k ≤ 128 ^ 8 := Nat.pow_le_pow_right (by decide) (by omega)
  exact Nat.le_trans this (by decide)

set_option maxHeartbeats 4000000 in
theorem refNumber_any (N : Nat) (v : Value) (xs : List Nat) (w : World) (hrow : Row N w v xs) (hx : ∀ x ∈ xs, x < 256) (hl : xs.length ≤ 140737488355328) :
    Calls Tryz.prog 52 #[v] w fun e w' => e = .returned (.tuple #[.int .u64 ((num xs 0 0).1 : Int), .int .i64 ((num xs 0 0).2.1 : Int), .int .i64 ((num xs 0 0).2.2 : Int)]) ∧ w' = w := by
  obtain ⟨ao, cap, rfl, hcap, hno, hcells⟩ := hrow
  have HC : Hid (0 < xs.length → ∃ b off, ao = some ⟨b, off, none⟩ ∧ b < N ∧ ∀ i, i < xs.length → w.cell? ⟨b, off + i, none⟩ = some (bv (xs.getD i 0))) := hcells
  have HX : Hid (∀ x ∈ xs, x < 256) := hx
  clear hcells hno hx
  go_enter Tryz.func52, Tryz.ntmps52
  go_wp2
  go_loop [5, 6, 7] (fun vn vp vk => ∃ k n p : Nat, k ≤ xs.length ∧ k ≤ 9 ∧ vk = .int .i64 (k : Int) ∧ vn = .int .u64 (n : Int) ∧ vp = .int .u64 (p : Int) ∧ p = 128 ^ k ∧ n < 128 ^ k ∧ num xs 0 0 = num (xs.drop k) k n)
    (fun _ _ vk => xs.length - (intOf vk).toNat)
  case atStart => exact ⟨0, 0, 1, Nat.zero_le _, by decide, rfl, rfl, rfl, rfl, by decide, rfl⟩
  case round =>
    obtain ⟨k, n, p, hk, hk9, rfl, rfl, rfl, hp, hn, heq⟩ := hrel
    have HE : Hid (num xs 0 0 = num (xs.drop k) k n) := heq
    have HN : Hid (n < 128 ^ k) := hn
    have HP : Hid (p = 128 ^ k) := hp
    clear heq
    by_cases hlt : k < xs.length
    · obtain ⟨b, off, rfl, _, hc⟩ := HC.out (by omega)
      have hck := hc k hlt
      have hb := byte_at HX.out k
      have HD : Hid (xs.drop k = xs.getD k 0 :: xs.drop (k + 1)) := by show _ = _; rw [List.drop_eq_getElem_cons hlt]; simp [List.getD_eq_getElem?_getD, List.getElem?_eq_getElem hlt]
      clear hc
      generalize xs.getD k 0 = c at hck hb HD
      by_cases h91 : k = 9 ∧ 1 < c
      · obtain ⟨rfl, h1⟩ := h91
        have HF : Hid (num xs 0 0 = (0, 0, 21)) := by show _ = _; rw [HE.out, HD.out]; exact num_form9 h1
        clear hp hn
        go_wp2
        go_ret3
        exact ⟨by rw [HF.out]; rfl, rfl⟩
      · have h9 : k = 9 → c ≤ 1 := by omega
        have hnx := num_next hk9 hn h9
        have hk9b : ¬ k = 9 ∨ c ≤ 1 := by omega
        by_cases h128 : c < 128
        · rw [show c % 128 = c by omega, ← hp] at hnx
          have hmul : ((c : Int) % 128) * (p : Int) = ((c * p : Nat) : Int) := by push_cast; rw [show (c : Int) % 128 = (c : Int) by omega]
          have h1 := hnx.1
          have h2 := hnx.2.2
          by_cases h0 : 0 < k ∧ c = 0
          · obtain ⟨hk0, rfl⟩ := h0
            have HF : Hid (num xs 0 0 = (0, 0, 21)) := by show _ = _; rw [HE.out, HD.out]; exact num_form0 hk0
            clear hp hn hnx h9 h91 hmul h1 h2 hk9b
            by_cases k9 : k = 9
            · subst k9
              go_wp2
              go_ret3
              exact ⟨by rw [HF.out]; rfl, rfl⟩
            · have hb9 : ((k : Int) == 9) = false := by simp; omega
              go_wp2
              go_ret3
              exact ⟨by rw [HF.out]; rfl, rfl⟩
          · have HF : Hid (num xs 0 0 = (n + c * p, k + 1, 0)) := by show _ = _; rw [HE.out, HD.out, HP.out]; exact num_last h128 h9 (by omega)
            by_cases hk0 : k = 0
            · subst hk0
              obtain rfl : p = 1 := hp
              obtain rfl : n = 0 := by simpa using hn
              rw [show 0 + c * 1 = c by omega] at HF
              clear hn hnx HP h91 h0 h1 h2 hmul
              have hcm : (c : Int) % 128 = (c : Int) := by omega
              have hck0 : w.cell? ⟨b, off, none⟩ = some (bv c) := hck
              by_cases hc0 : c = 0
              · subst hc0
                go_wp2
                go_ret3
                exact ⟨by rw [HF.out]; rfl, rfl⟩
              · have hcb : ((c : Int) == 0) = false := by simp; omega
                go_wp2
                go_ret3
                exact ⟨by rw [HF.out]; rfl, rfl⟩
            · have hcb : ((c : Int) == 0) = false := by simp; omega
              generalize hq : c * p = q at *
              clear hp hn hnx hq HP h91 h0
              by_cases k9 : k = 9
              · subst k9
                obtain rfl : c = 1 := by have := h9 rfl; simp at hcb; omega
                have hp1 : (p : Int) = (q : Int) := by simpa using hmul
                clear hmul hcb
                go_wp2
                go_ret3
                exact ⟨by rw [HF.out]; first | rfl | simp, rfl⟩
              · have hb9 : ((k : Int) == 9) = false := by simp; omega
                go_wp2
                go_ret3
                exact ⟨by rw [HF.out]; first | rfl | simp, rfl⟩
        · have hk8 : k < 9 := by omega
          obtain ⟨e1, e2⟩ := mul_step hk8
          have HF : Hid (num xs 0 0 = num (xs.drop (k + 1)) (k + 1) (n + (c - 128) * p)) := by show _ = _; rw [HE.out, HD.out, HP.out]; exact num_more (by omega) (by omega)
          have HP2 : Hid (128 ^ (k + 1) = 128 * p) := by show _ = _; rw [HP.out, Nat.pow_succ, Nat.mul_comm]
          rw [← hp] at e1 e2
          rw [show c % 128 = c - 128 by omega] at hnx
          have h3 := hnx.2.1 hk8
          have HL : Hid (n + (c - 128) * p < 128 ^ (k + 1)) := by show _ < _; rw [HP.out]; exact h3
          have hmul : ((c : Int) % 128) * (p : Int) = (((c - 128) * p : Nat) : Int) := by push_cast; rw [show (c : Int) % 128 = ((c - 128 : Nat) : Int) by omega]
          have h1 := hnx.1
          have h2 := hnx.2.2
          rw [← hp] at h1 h2
          generalize hq : (c - 128) * p = q at *
          clear hp hn hnx hq e1 h3 h91
          go_wp2
          go_round
          case rel => exact ⟨k + 1, n + q, 128 * p, by omega, by omega, by go_num, by go_num, by go_num, HP2.out.symm, HL.out, HF.out⟩
          case measure => simp [intOf]; omega
    · obtain rfl : k = xs.length := by omega
      have e1 := HE.out
      rw [List.drop_length, num] at e1
      have HF : Hid (num xs 0 0 = (0, 0, 20)) := e1
      clear e1 hp hn
      go_wp2
      go_ret3
      exact ⟨by rw [HF.out]; rfl, rfl⟩
end Go.Proofs.YtllmdfkiogmofaaGreatDoor.Cd

/- The reference's readers: GetUint. -/
namespace Go.Proofs.YtllmdfkiogmofaaGreatDoor.Cd
open Go.RowKit
set_option maxRecDepth 100000

abbrev rv (v : Value) (n : Nat) (e : Int) : Value := .agg #[v, .int .i64 (n : Int), .int .i64 e]

theorem uintR_num {xs : List Nat} {n most : Nat} : uintR (xs.drop n) 0 most = if (num (xs.drop n) 0 0).2.2 ≠ 0 then (0, xs.drop n, ((num (xs.drop n) 0 0).2.2 : Int)) else if most < (num (xs.drop n) 0 0).1 then (0, xs.drop n, 22) else ((num (xs.drop n) 0 0).1, xs.drop (n + (num (xs.drop n) 0 0).2.1), 0) := by
  rw [uintR, if_neg (by simp)]
  by_cases h0 : (num (xs.drop n) 0 0).2.2 = 0
  · by_cases h1 : most < (num (xs.drop n) 0 0).1
    · have hf : front (xs.drop n) most = (0, 0, 22) := by unfold front; rw [if_pos ⟨h0, h1⟩]
      rw [hf, if_pos (by simp), if_neg (by simp [h0]), if_pos h1]; rfl
    · have hf : front (xs.drop n) most = num (xs.drop n) 0 0 := by unfold front; rw [if_neg (fun h => h1 h.2)]
      rw [hf, if_neg (by simp [h0]), if_neg (by simp [h0]), if_neg h1, List.drop_drop]
  · have hf : front (xs.drop n) most = num (xs.drop n) 0 0 := by unfold front; rw [if_neg (fun h => h0 h.1)]
    rw [hf, if_pos h0, if_pos h0]

set_option maxHeartbeats 4000000 in
theorem refGetUint_any (N : Nat) (v : Value) (xs : List Nat) (n : Nat) (e : Int) (most : Nat) (w : World) (hrow : Row N w v xs) (hNw : N ≤ w.heap.size) (hn : n ≤ xs.length) (hx : ∀ x ∈ xs, x < 256) (hl : xs.length ≤ 140737488355328) :
    Calls Tryz.prog 23 #[rv v n e, .int .u64 (most : Int)] w fun x w' => ∃ n', x = .returned (.tuple #[rv v n' (uintR (xs.drop n) e most).2.2, .int .u64 ((uintR (xs.drop n) e most).1 : Int)]) ∧ xs.drop n' = (uintR (xs.drop n) e most).2.1 ∧ n ≤ n' ∧ n' ≤ xs.length ∧ Below w.heap.size w w' := by
  have HR : Hid (Row N w v xs) := hrow
  obtain ⟨ao, cap, rfl, hcap, hno, hc⟩ := hrow
  by_cases he : e = 0
  · subst he
    have hxd : ∀ x ∈ xs.drop n, x < 256 := fun x h => hx x (List.mem_of_mem_drop h)
    have hnf := num_facts (xs.drop n) 0 0 (by decide) (by decide) hxd
    have HNum : Hid (∀ (v' : Value) (w' : World), Row N w' v' (xs.drop n) → Calls Tryz.prog 52 #[v'] w' fun e w'' => e = .returned (.tuple #[.int .u64 ((num (xs.drop n) 0 0).1 : Int), .int .i64 ((num (xs.drop n) 0 0).2.1 : Int), .int .i64 ((num (xs.drop n) 0 0).2.2 : Int)]) ∧ w'' = w') := fun v' w' h => refNumber_any N v' (xs.drop n) w' h hxd (by rw [List.length_drop]; omega)
    have hU := uintR_num (xs := xs) (n := n) (most := most)
    rw [hU]
    rw [List.length_drop] at hnf
    generalize hp1 : (num (xs.drop n) 0 0).1 = a at *
    generalize hp2 : (num (xs.drop n) 0 0).2.1 = k at *
    generalize hp3 : (num (xs.drop n) 0 0).2.2 = f at *
    have HB : Hid (∀ o o' : Obj, Below N w ((w.alloc o).alloc o')) := fun o o' => ((Below.refl N w).alloc hNw o).alloc (by simp; omega) o'
    have hsl : ∃ b off sp, (0 < xs.length → sp = none) ∧ (ao = none ∨ ao = some ⟨b, off, sp⟩) := by
      cases ao with
      | none => exact ⟨0, 0, none, fun _ => rfl, .inl rfl⟩
      | some a =>
        by_cases h0 : 0 < xs.length
        · obtain ⟨b, off, h, _⟩ := hc h0
          exact ⟨b, off, none, fun _ => rfl, .inr h⟩
        · exact ⟨a.block, a.off, a.spot, fun h => absurd h h0, .inr rfl⟩
    clear hp1 hp2 hp3 hU hxd hx
    have HNF := hnf
    clear hnf
    by_cases h0 : 0 < xs.length
    · obtain ⟨b, off, rfl, hN, hd⟩ := hc h0
      have HWA : Hid (cap = n → ∀ o o' : Obj, Row N ((w.alloc o).alloc o') (.slice (some ⟨b, off, none⟩) (xs.length - n) 0) (xs.drop n)) := fun e o o' => row_drop_eq (HR.out.below (HB.out o o')) hn e
      have HWB : Hid (cap ≠ n → ∀ o o' : Obj, Row N ((w.alloc o).alloc o') (.slice (some ⟨b, off + n, none⟩) (xs.length - n) (cap - n)) (xs.drop n)) := fun e o o' => row_drop_ne (HR.out.below (HB.out o o')) hn e
      clear hc hd hno hsl
      by_cases hf : f = 0
      · subst hf
        obtain ⟨k1, k2, k3, k4⟩ := HNF.1 rfl
        by_cases hm : most < a
        · rw [if_neg (by simp), if_pos hm]
          clear HNF
          go_enter Tryz.func23, Tryz.ntmps23
          go_wp2_with fail
          all_goals refine (HNum.out _ _ (by first | exact HWA.out (by omega) _ _ | exact HWB.out (by omega) _ _)).mono ?_
          all_goals rintro x w' ⟨rfl, rfl⟩
          all_goals go_wp2_with fail
          all_goals go_returns
          all_goals first
          | exact ⟨n, rfl, rfl, Nat.le_refl _, hn, by go_grown⟩
          | (have hcn : cap = n := by assumption
             subst hcn
             exact ⟨_, rfl, rfl, Nat.le_refl _, hn, by go_grown⟩)
        · rw [if_neg (by simp), if_neg hm]
          clear HNF
          go_enter Tryz.func23, Tryz.ntmps23
          go_wp2_with fail
          all_goals refine (HNum.out _ _ (by first | exact HWA.out (by omega) _ _ | exact HWB.out (by omega) _ _)).mono ?_
          all_goals rintro x w' ⟨rfl, rfl⟩
          all_goals go_wp2_with fail
          all_goals go_returns
          all_goals exact ⟨n + k, rfl, rfl, by omega, by omega, by go_grown⟩
      · rw [if_pos hf]
        obtain ⟨k1, k2, k3⟩ := HNF.2 hf
        have hb : ((f : Int) == 0) = false := by simpa using hf
        clear HNF
        subst k1 k2
        go_enter Tryz.func23, Tryz.ntmps23
        go_wp2_with fail
        all_goals refine (HNum.out _ _ (by first | exact HWA.out (by omega) _ _ | exact HWB.out (by omega) _ _)).mono ?_
        all_goals rintro x w' ⟨rfl, rfl⟩
        all_goals go_wp2_with fail
        all_goals go_returns
        all_goals first
          | exact ⟨n, rfl, rfl, Nat.le_refl _, hn, by go_grown⟩
          | (have hcn : cap = n := by assumption
             subst hcn
             exact ⟨_, rfl, rfl, Nat.le_refl _, hn, by go_grown⟩)
    · obtain rfl : xs = [] := List.length_eq_zero_iff.1 (by omega)
      obtain rfl : n = 0 := by simpa using hn
      have hf : f ≠ 0 := fun h => by have := HNF.1 h; simp at this; omega
      obtain ⟨k1, k2, k3⟩ := HNF.2 hf
      rw [if_pos hf]
      have hb : ((f : Int) == 0) = false := by simpa using hf
      subst k1 k2
      have HE : Hid (∀ (w' : World) (x : Option Addr) (c : Nat), (x = none → c = 0) → Row N w' (.slice x 0 c) (List.drop 0 [])) := fun w' x c h => ⟨x, c, rfl, Nat.zero_le _, h, fun h => by simp at h⟩
      clear HNF hc
      obtain ⟨b, off, sp, _, rfl | rfl⟩ := hsl
      · obtain rfl : cap = 0 := hno rfl
        go_enter Tryz.func23, Tryz.ntmps23
        go_wp2_with fail
        refine (HNum.out _ _ (HE.out _ _ _ (by simp))).mono ?_
        rintro x w' ⟨rfl, rfl⟩
        go_wp2_with fail
        go_returns
        exact ⟨0, rfl, rfl, Nat.le_refl _, hn, by go_grown⟩
      · clear hno
        go_enter Tryz.func23, Tryz.ntmps23
        go_wp2_with fail
        refine (HNum.out _ _ (HE.out _ _ _ (by intro h; cases h))).mono ?_
        rintro x w' ⟨rfl, rfl⟩
        go_wp2_with fail
        go_returns
        exact ⟨0, rfl, rfl, Nat.le_refl _, hn, by go_grown⟩
  · have HF : Hid (uintR (xs.drop n) e most = (0, xs.drop n, e)) := by show _ = _; rw [uintR, if_pos he]
    have hb : (e == 0) = false := by simpa using he
    clear hc hno
    go_enter Tryz.func23, Tryz.ntmps23
    go_wp2_with fail
    go_returns
    rw [HF.out]
    exact ⟨n, rfl, rfl, Nat.le_refl _, hn, by go_grown⟩
end Go.Proofs.YtllmdfkiogmofaaGreatDoor.Cd

/- The reference's readers: End, Byte. -/
namespace Go.Proofs.YtllmdfkiogmofaaGreatDoor.Cd
open Go.RowKit
set_option maxRecDepth 100000

set_option maxHeartbeats 2000000 in
theorem refEnd_any (N : Nat) (v : Value) (xs : List Nat) (n : Nat) (e : Int) (w : World) (hrow : Row N w v xs) (hn : n ≤ xs.length) :
    Calls Tryz.prog 24 #[rv v n e] w fun x w' => x = .returned (.int .i64 (endE (xs.drop n).length e)) ∧ Below w.heap.size w w' := by
  obtain ⟨ao, cap, rfl, hcap⟩ := hrow.shape
  have hB := (Below.refl w.heap.size w).alloc (Nat.le_refl _) (Obj.cells #[.slice ao xs.length cap, .int .i64 (n : Int), .int .i64 e] 55)
  have HB : Hid (Below w.heap.size w (w.alloc (Obj.cells #[.slice ao xs.length cap, .int .i64 (n : Int), .int .i64 e] 55))) := hB
  rw [List.length_drop]
  clear hrow hB
  by_cases he : e = 0
  · subst he
    by_cases hx : n < xs.length
    · have HF : Hid (endE (xs.length - n) 0 = 23) := by show _ = _; rw [endE, if_pos ⟨rfl, by omega⟩]
      go_enter Tryz.func24, Tryz.ntmps24
      go_wp2
      go_ret
      exact ⟨by rw [HF.out]; rfl, HB.out⟩
    · have HF : Hid (endE (xs.length - n) 0 = 0) := by show _ = _; rw [endE, if_neg (by omega)]
      go_enter Tryz.func24, Tryz.ntmps24
      go_wp2
      go_ret
      exact ⟨by rw [HF.out]; rfl, HB.out⟩
  · have HF : Hid (endE (xs.length - n) e = e) := by show _ = _; rw [endE, if_neg (fun h => he h.1)]
    have hb : (e == 0) = false := by simpa using he
    go_enter Tryz.func24, Tryz.ntmps24
    go_wp2
    go_ret
    exact ⟨by rw [HF.out]; rfl, HB.out⟩

end Go.Proofs.YtllmdfkiogmofaaGreatDoor.Cd
