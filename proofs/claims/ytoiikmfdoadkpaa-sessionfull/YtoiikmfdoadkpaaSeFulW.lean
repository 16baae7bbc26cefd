/- SessionFull. -/
import Derived.Test.YtoiikmfdoadkpaaSeAlive
namespace Go.Proofs.Ytoiikmfdoadkpaa
open Go.RowKit Go.Lib
set_option maxRecDepth 100000
namespace Se
theorem open_rep {k : Nat} (h : k < 4096) : openL (List.replicate k r0) = List.replicate (k + 1) r0 ∧ openE (List.replicate k r0) = ((k : Int) + 1, 0) := by
  unfold openL openE
  rw [List.length_replicate, if_pos h, if_pos h, ← List.replicate_succ']
  exact ⟨rfl, rfl⟩
theorem open_full : openL (List.replicate 4096 r0) = List.replicate 4096 r0 ∧ openE (List.replicate 4096 r0) = (0, 152) := by
  unfold openL openE
  rw [List.length_replicate, if_neg (by omega), if_neg (by omega)]
  exact ⟨rfl, rfl⟩
theorem el_rep {n i : Nat} (h : i < n) : el (List.replicate n r0) i = r0 := by
  unfold el
  rw [List.getD_eq_getElem?_getD, List.getElem?_replicate, if_pos h]; rfl
theorem keep_full : keepB (List.replicate 4096 r0) 4096 1 = true := by
  unfold keepB hasB
  rw [List.length_replicate, show ((4096 : Int) - 1).toNat = 4095 from rfl, el_rep (by omega)]
  rfl
set_option maxHeartbeats 4000000 in
theorem full_walk (more : Int) (w : World) (hm : -9223372036854775808 ≤ more ∧ more ≤ 9223372036854775807) : Calls Try.prog 8 #[.int .i64 more] w fun e w' => e = .returned (.bool true) ∧ Below w.heap.size w w' := by
  have HA := fun W => alive_any W
  by_cases h1 : more < 1
  · go_enter Try.func8, Try.ntmps8
    go_wp2_with (go_at_call 10; refine (HA _).mono ?_; rintro e w1 ⟨rfl, hb⟩)
    go_ret
    exact ⟨rfl, hb⟩
  by_cases h2 : 100 < more
  · go_enter Try.func8, Try.ntmps8
    go_wp2_with (go_at_call 10; refine (HA _).mono ?_; rintro e w1 ⟨rfl, hb⟩)
    go_ret
    exact ⟨rfl, hb⟩
  obtain ⟨n, hn⟩ : ∃ n : Nat, (n : Int) = more := ⟨more.toNat, by omega⟩
  subst hn
  have hn100 : n ≤ 100 := by omega
  clear hm
  go_enter Try.func8, Try.ntmps8
  go_wp2_with (first
    | (go_at_call 10; refine (HA _).mono ?_; rintro e w1 ⟨rfl, hb⟩; have HB1 : Hid (Below w.heap.size w w1) := hb; clear hb)
    | (obtain ⟨B, HB, HN⟩ := new_B w1; go_at_call 9; go_loud (refine HN.mono ?_; rintro e w2 ⟨rfl, hT1, hb1⟩; have H1 : Hid (TAt B w2 B (.slice none 0 0) [] ∧ Below w.heap.size w w2 ∧ w.heap.size ≤ B ∧ B ≤ w2.heap.size) := (by have h1 := HB1.out.size; have h2 := HB.out; have h3 := hb1.size; exact ⟨hT1, HB1.out.trans (hb1.mono (by omega)), by omega, by omega⟩); clear hT1 hb1 HN HB)))
  go_loopg [4, 5, 6, 21] 4096 (fun g _ _ _ s21 wr => ∃ (k : Nat) (v : Value), s21 = .int .i64 k ∧ k ≤ 4096 ∧ 4096 - k ≤ g ∧ Hid (TAt B wr B v (List.replicate k r0) ∧ Below w.heap.size w wr))
  case atStart => exact ⟨0, _, rfl, by omega, by omega, H1.out.1, H1.out.2.1⟩
  case round =>
    obtain ⟨k, v, rfl, hk, hg, HT⟩ := hrel
    by_cases hlt : k < 4096
    · have hltz : (k : Int) < 4096 := by omega
      have HL : Hid (k < 4096) := hlt
      have hw : IntKind.u64.wrap ((k : Int) + 1) = (k : Int) + 1 := by rw [IntKind.wrap_u64]; omega
      go_wp2_with (go_at_call 16; go_loud (refine (Open_any _ _ _ _ _ HT.out.1 (by simp; omega)).mono ?_; rintro e w3 ⟨he, v3, hT3, hu3, _⟩; rw [(open_rep hlt).2] at he; subst he; have H3 : Hid (TAt B w3 B v3 (List.replicate (k + 1) r0) ∧ Below w.heap.size w w3) := ⟨by rw [← (open_rep hlt).1]; exact hT3, HT.out.2.trans (hu3.below (fun j hj => by have := TF.low HT.out.1 hj; have := H1.out.2.2.1; omega) HT.out.2.size)⟩; clear hT3 hu3))
      go_roundg (4096 - (k + 1))
      case measure => have := HL.out; omega
      case rel => exact ⟨k + 1, v3, by go_num, HL.out, Nat.le_refl _, H3.out⟩
    · have hk2 : k = 4096 := by omega
      subst hk2
      have H5 : Hid (TAt B wr B v (List.replicate 4096 r0) ∧ Below w.heap.size w wr) := HT.out
      clear HT hg hlt hk
      go_wp2
      go_loopg [7, 8, 40] n (fun g _ _ s40 wr => ∃ (k : Nat) (v : Value), s40 = .int .i64 k ∧ k ≤ n ∧ n - k ≤ g ∧ Hid (TAt B wr B v (List.replicate 4096 r0) ∧ Below w.heap.size w wr))
      case atStart => exact ⟨0, v, rfl, by omega, by omega, H5.out⟩
      case round =>
        obtain ⟨k, v, rfl, hk, hg, HT⟩ := hrel
        by_cases hlt : k < n
        · have hltz : (k : Int) < (n : Int) := by omega
          have HL : Hid (k < n) := hlt
          go_wp2_with (first
            | (go_at_call 16; go_loud (refine (Open_any _ _ _ _ _ HT.out.1 (by simp)).mono ?_; rintro e w3 ⟨he, v3, hT3, hu3, _⟩; rw [open_full.2] at he; subst he; have H3 : Hid (TAt B w3 B v3 (List.replicate 4096 r0) ∧ Below w.heap.size w w3) := ⟨by rw [← open_full.1]; exact hT3, HT.out.2.trans (hu3.below (fun j hj => by have := TF.low HT.out.1 hj; have := H1.out.2.2.1; omega) HT.out.2.size)⟩; clear hT3 hu3))
            | (go_at_call 15; go_loud (refine (Len_any _ _ _ _ _ H3.out.1).mono ?_; rintro e w4 ⟨he, hw4⟩; replace hw4 := hw4.symm; subst hw4; rw [List.length_replicate] at he; subst he)))
          go_roundg (n - (k + 1))
          case measure => have := HL.out; omega
          case rel => exact ⟨k + 1, v3, by go_num, HL.out, Nat.le_refl _, H3.out⟩
        · have hltz : ¬ (k : Int) < (n : Int) := by omega
          go_wp2_with (go_at_call 18; go_loud (refine (Keep_any _ _ _ _ _ 4096 1 (0, 0, 0) HT.out.1 (by simp)).mono ?_; rintro e w3 ⟨he, hT3, hu3⟩; rw [keep_full] at he; subst he; have H3 : Hid (Below w.heap.size w w3) := HT.out.2.trans (hu3.below (fun j hj => by have := TF.low HT.out.1 hj; have := H1.out.2.2.1; omega) HT.out.2.size); clear hT3 hu3))
          go_ret
          exact ⟨rfl, H3.out⟩
end Se
end Go.Proofs.Ytoiikmfdoadkpaa
