/- The library's sort at int: insertion, reversing, sifting, the heap. -/
import Derived.Test.YtpmmpdkeahmdiaaSrtI0
namespace Go.Proofs.Ytpmmpdkeahmdiaa
open Go.RowKit Go.Sort
set_option maxRecDepth 100000
namespace SrtI

theorem ins_go {a j : Nat} {d : Array Int} (hj : a < j) (hl : ltInt d[j]! d[j - 1]! = true) : insInner ltInt a j d = insInner ltInt a (j - 1) (swp d j (j - 1)) := by
  obtain ⟨k, rfl⟩ : ∃ k, j = k + 1 := ⟨j - 1, by omega⟩
  rw [insInner]
  simp only [Nat.add_sub_cancel] at hl ⊢
  rw [if_pos (by simp [hj, hl])]
theorem ins_stop {a j : Nat} {d : Array Int} (h : j ≤ a ∨ ltInt d[j]! d[j - 1]! = false) : insInner ltInt a j d = d := by
  cases j with
  | zero => rfl
  | succ k =>
    rw [insInner]
    simp only [Nat.add_sub_cancel] at h
    rw [if_neg]
    rcases h with h | h
    · simp; omega
    · simp [h]
theorem outer_go {a b i : Nat} {d : Array Int} (h : i < b) : insOuter ltInt a b i d = insOuter ltInt a b (i + 1) (insInner ltInt a i d) := by rw [insOuter, if_pos h]
set_option maxHeartbeats 4000000 in
theorem insertionSort_any (blk off cap a b : Nat) (d : Array Int) (w : World) (hH : Holds enc w blk off d) (hab : a ≤ b) (hb : b ≤ d.size) (hsz : d.size < 4611686018427387904) :
    Calls Try.prog 106 #[.slice (some ⟨blk, off, none⟩) d.size cap, .int .i64 a, .int .i64 b] w fun e w' =>
      e = .returned (.tuple #[]) ∧ At blk off w w' d.size (Sort.insertionSort ltInt d a b) := by
  have HA : Hid (At blk off w w d.size d) := ⟨hH, rfl, RStep.refl _ _ _ _⟩
  have HE : Hid (Sort.insertionSort ltInt d a b = insOuter ltInt a b (a + 1) d) := rfl
  generalize hn : d.size = n at *
  clear hH hn
  go_enter Try.func106, Try.ntmps106
  go_wp2
  go_loopw [6] (fun vi wr => ∃ (i : Nat) (dk : Array Int), vi = .int .i64 i ∧ a < i ∧ i ≤ b + 1 ∧ At blk off w wr n dk ∧ insOuter ltInt a b i dk = insOuter ltInt a b (a + 1) d) (fun vi _ => b + 1 - (intOf vi).toNat)
  case atStart => exact ⟨a + 1, d, by go_num, by omega, by omega, HA.out, rfl⟩
  case round =>
    obtain ⟨i, dk, rfl, hai, hib, hAt, hO⟩ := hrel
    have HO : Hid (insOuter ltInt a b i dk = insOuter ltInt a b (a + 1) d) := hO
    have HK : Hid (At blk off w wr n dk) := hAt
    clear hO hAt
    go_wp2
    · have hib2 : i < b := by assumption
      go_loopw [7] (fun vj wr2 => ∃ (j : Nat) (dj : Array Int), vj = .int .i64 j ∧ a ≤ j ∧ j ≤ i ∧ At blk off w wr2 n dj ∧ insInner ltInt a j dj = insInner ltInt a i dk) (fun vj _ => (intOf vj).toNat)
      case atStart => exact ⟨i, dk, rfl, by omega, Nat.le_refl _, HK.out, rfl⟩
      case round =>
        obtain ⟨j, dj, rfl, haj, hji, hAj, hI⟩ := hrel
        obtain ⟨G, hG, hcw, hfw⟩ := hAj.fam
        have HG : Hid (∀ t, G t = dj[t]!) := hG
        have HAj : Hid (At blk off w wr n dj) := hAj
        have HI : Hid (insInner ltInt a j dj = insInner ltInt a i dk) := hI
        clear hG hAj hI
        go_wp2
        by_cases hja : a < j
        · go_quiet (first | (go_at_call 112; refine Calls.quiet_of_same (Less_any _ _ _)))
          go_wp2
          · have hl : ltInt (G j) (G (j - 1)) = true := by assumption
            go_region
            all_goals go_wp2
            go_roundw
            case rel =>
              refine ⟨j - 1, swp dj j (j - 1), by congr 1; omega, by omega, by omega, ?_, ?_⟩
              · rw [HG.out, HG.out]
                exact ((HAj.out.drewN _).drew).swap (by omega) (by omega)
              · rw [← HI.out, ins_go hja (by rw [← HG.out, ← HG.out]; exact hl)]
            case measure => simp [intOf]; omega
          · have hl : ltInt (G j) (G (j - 1)) = false := by assumption
            go_roundw
            case rel => exact ⟨i + 1, dj, by go_num, by omega, by omega, HAj.out.drewN _, by rw [← HO.out, outer_go hib2, ← HI.out, ins_stop (.inr (by rw [← HG.out, ← HG.out]; exact hl))]⟩
            case measure => simp [intOf]; omega
        · go_quiet (first | (go_at_call 112; refine Calls.quiet_of_same (Less_any _ _ _)))
          go_wp2
          go_roundw
          case rel => exact ⟨i + 1, dj, by go_num, by omega, by omega, HAj.out.drewN _, by rw [← HO.out, outer_go hib2, ← HI.out, ins_stop (.inl (by omega))]⟩
          case measure => simp [intOf]; omega
    · have hge : ¬ i < b := by omega
      go_end0
      exact ⟨rfl, by rw [HE.out, ← HO.out, insOuter, if_neg hge]; exact HK.out⟩
end SrtI
end Go.Proofs.Ytpmmpdkeahmdiaa
