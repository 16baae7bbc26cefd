/- The reference's readers: GetUint. -/
import Derived.Test.YtidnhldjnbpafaaRefReader
namespace Go.Proofs.Ytidnhldjnbpafaa
open Go.RowKit
set_option maxRecDepth 100000

theorem uintR_num {xs : List Nat} {n most : Nat} : uintR (xs.drop n) 0 most = if (num (xs.drop n) 0 0).2.2 ≠ 0 then (0, xs.drop n, ((num (xs.drop n) 0 0).2.2 : Int)) else if most < (num (xs.drop n) 0 0).1 then (0, xs.drop n, 22) else ((num (xs.drop n) 0 0).1, xs.drop (n + (num (xs.drop n) 0 0).2.1), 0) := by
  rw [uintR, if_neg (by simp)]
  by_cases h0 : (num (xs.drop n) 0 0).2.2 = 0
  · by_cases h1 : most < (num (xs.drop n) 0 0).1
    · have hf : front (xs.drop n) most = (0, 0, 22) := by unfold front; rw [if_pos ⟨h0, h1⟩]
      rw [hf, if_pos (by simp), if_neg (by simp [h0]), if_pos h1]; rfl
    · have hf : front (xs.drop n) most = num (xs.drop n) 0 0 := by unfold front; rw [if_neg (fun h => h1 h.2)]
      rw [hf, if_neg (by simp [h0]), if_neg (by simp [h0]), if_neg h1, List.drop_drop]
  · have hf : front (xs.drop n) most = num (xs.drop n) 0 0 := by unfold front; rw [if_neg (fun h => h0 h.1)]
    rw [hf, if_pos h0, if_pos h0]

set_option maxHeartbeats 4000000 in
theorem refGetUint_any (N : Nat) (v : Value) (xs : List Nat) (n : Nat) (e : Int) (most : Nat) (w : World) (hrow : Row N w v xs) (hNw : N ≤ w.heap.size) (hn : n ≤ xs.length) (hx : ∀ x ∈ xs, x < 256) (hl : xs.length ≤ 140737488355328) :
    Calls Try.prog 17 #[rv v n e, .int .u64 (most : Int)] w fun x w' => ∃ n', x = .returned (.tuple #[rv v n' (uintR (xs.drop n) e most).2.2, .int .u64 ((uintR (xs.drop n) e most).1 : Int)]) ∧ xs.drop n' = (uintR (xs.drop n) e most).2.1 ∧ n ≤ n' ∧ n' ≤ xs.length ∧ Below w.heap.size w w' := by
  have HR : Hid (Row N w v xs) := hrow
  obtain ⟨ao, cap, rfl, hcap, hno, hc⟩ := hrow
  by_cases he : e = 0
  · subst he
    have hxd : ∀ x ∈ xs.drop n, x < 256 := fun x h => hx x (List.mem_of_mem_drop h)
    have hnf := num_facts (xs.drop n) 0 0 (by decide) (by decide) hxd
    have HNum : Hid (∀ (v' : Value) (w' : World), Row N w' v' (xs.drop n) → Calls Try.prog 29 #[v'] w' fun e w'' => e = .returned (.tuple #[.int .u64 ((num (xs.drop n) 0 0).1 : Int), .int .i64 ((num (xs.drop n) 0 0).2.1 : Int), .int .i64 ((num (xs.drop n) 0 0).2.2 : Int)]) ∧ w'' = w') := fun v' w' h => refNumber_any N v' (xs.drop n) w' h hxd (by rw [List.length_drop]; omega)
    have hU := uintR_num (xs := xs) (n := n) (most := most)
    rw [hU]
    rw [List.length_drop] at hnf
    generalize hp1 : (num (xs.drop n) 0 0).1 = a at *
    generalize hp2 : (num (xs.drop n) 0 0).2.1 = k at *
    generalize hp3 : (num (xs.drop n) 0 0).2.2 = f at *
    have HB : Hid (∀ o o' : Obj, Below N w ((w.alloc o).alloc o')) := fun o o' => ((Below.refl N w).alloc hNw o).alloc (by simp; omega) o'
    have hsl : ∃ b off sp, (0 < xs.length → sp = none) ∧ (ao = none ∨ ao = some ⟨b, off, sp⟩) := by
      cases ao with
      | none => exact ⟨0, 0, none, fun _ => rfl, .inl rfl⟩
      | some a =>
        by_cases h0 : 0 < xs.length
        · obtain ⟨b, off, h, _⟩ := hc h0
          exact ⟨b, off, none, fun _ => rfl, .inr h⟩
        · exact ⟨a.block, a.off, a.spot, fun h => absurd h h0, .inr rfl⟩
    clear hp1 hp2 hp3 hU hxd hx
    have HNF := hnf
    clear hnf
    by_cases h0 : 0 < xs.length
    · obtain ⟨b, off, rfl, hN, hd⟩ := hc h0
      have HWA : Hid (cap = n → ∀ o o' : Obj, Row N ((w.alloc o).alloc o') (.slice (some ⟨b, off, none⟩) (xs.length - n) 0) (xs.drop n)) := fun e o o' => row_drop_eq (HR.out.below (HB.out o o')) hn e
      have HWB : Hid (cap ≠ n → ∀ o o' : Obj, Row N ((w.alloc o).alloc o') (.slice (some ⟨b, off + n, none⟩) (xs.length - n) (cap - n)) (xs.drop n)) := fun e o o' => row_drop_ne (HR.out.below (HB.out o o')) hn e
      clear hc hd hno hsl
      by_cases hf : f = 0
      · subst hf
        obtain ⟨k1, k2, k3, k4⟩ := HNF.1 rfl
        by_cases hm : most < a
        · rw [if_neg (by simp), if_pos hm]
          clear HNF
          go_enter Try.func17, Try.ntmps17
          go_wp2_with fail
          all_goals refine (HNum.out _ _ (by first | exact HWA.out (by omega) _ _ | exact HWB.out (by omega) _ _)).mono ?_
          all_goals rintro x w' ⟨rfl, rfl⟩
          all_goals go_wp2_with fail
          all_goals go_returns
          all_goals first
          | exact ⟨n, rfl, rfl, Nat.le_refl _, hn, by go_grown⟩
          | (have hcn : cap = n := by assumption
             subst hcn
             exact ⟨_, rfl, rfl, Nat.le_refl _, hn, by go_grown⟩)
        · rw [if_neg (by simp), if_neg hm]
          clear HNF
          go_enter Try.func17, Try.ntmps17
          go_wp2_with fail
          all_goals refine (HNum.out _ _ (by first | exact HWA.out (by omega) _ _ | exact HWB.out (by omega) _ _)).mono ?_
          all_goals rintro x w' ⟨rfl, rfl⟩
          all_goals go_wp2_with fail
          all_goals go_returns
          all_goals exact ⟨n + k, rfl, rfl, by omega, by omega, by go_grown⟩
      · rw [if_pos hf]
        obtain ⟨k1, k2, k3⟩ := HNF.2 hf
        have hb : ((f : Int) == 0) = false := by simpa using hf
        clear HNF
        subst k1 k2
        go_enter Try.func17, Try.ntmps17
        go_wp2_with fail
        all_goals refine (HNum.out _ _ (by first | exact HWA.out (by omega) _ _ | exact HWB.out (by omega) _ _)).mono ?_
        all_goals rintro x w' ⟨rfl, rfl⟩
        all_goals go_wp2_with fail
        all_goals go_returns
        all_goals first
          | exact ⟨n, rfl, rfl, Nat.le_refl _, hn, by go_grown⟩
          | (have hcn : cap = n := by assumption
             subst hcn
             exact ⟨_, rfl, rfl, Nat.le_refl _, hn, by go_grown⟩)
    · obtain rfl : xs = [] := List.length_eq_zero_iff.1 (by omega)
      obtain rfl : n = 0 := by simpa using hn
      have hf : f ≠ 0 := fun h => by have := HNF.1 h; simp at this; omega
      obtain ⟨k1, k2, k3⟩ := HNF.2 hf
      rw [if_pos hf]
      have hb : ((f : Int) == 0) = false := by simpa using hf
      subst k1 k2
      have HE : Hid (∀ (w' : World) (x : Option Addr) (c : Nat), (x = none → c = 0) → Row N w' (.slice x 0 c) (List.drop 0 [])) := fun w' x c h => ⟨x, c, rfl, Nat.zero_le _, h, fun h => by simp at h⟩
      clear HNF hc
      obtain ⟨b, off, sp, _, rfl | rfl⟩ := hsl
      · obtain rfl : cap = 0 := hno rfl
        go_enter Try.func17, Try.ntmps17
        go_wp2_with fail
        refine (HNum.out _ _ (HE.out _ _ _ (by simp))).mono ?_
        rintro x w' ⟨rfl, rfl⟩
        go_wp2_with fail
        go_returns
        exact ⟨0, rfl, rfl, Nat.le_refl _, hn, by go_grown⟩
      · clear hno
        go_enter Try.func17, Try.ntmps17
        go_wp2_with fail
        refine (HNum.out _ _ (HE.out _ _ _ (by intro h; cases h))).mono ?_
        rintro x w' ⟨rfl, rfl⟩
        go_wp2_with fail
        go_returns
        exact ⟨0, rfl, rfl, Nat.le_refl _, hn, by go_grown⟩
  · have HF : Hid (uintR (xs.drop n) e most = (0, xs.drop n, e)) := by show _ = _; rw [uintR, if_pos he]
    have hb : (e == 0) = false := by simpa using he
    clear hc hno
    go_enter Try.func17, Try.ntmps17
    go_wp2_with fail
    go_returns
    rw [HF.out]
    exact ⟨n, rfl, rfl, Nat.le_refl _, hn, by go_grown⟩
end Go.Proofs.Ytidnhldjnbpafaa
