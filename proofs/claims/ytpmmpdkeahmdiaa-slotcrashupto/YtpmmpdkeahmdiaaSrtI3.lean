/- The library's sort at int: the heap. -/
import Derived.Test.YtpmmpdkeahmdiaaSrtI2
import Derived.Handy
namespace Go.Proofs.Ytpmmpdkeahmdiaa
open Go.RowKit Go.Sort
set_option maxRecDepth 100000
namespace SrtI

theorem siftDown_at {blk off cap lo hi first n : Nat} {d : Array Int} {w0 w : World} (hA : At blk off w0 w n d) (hb : first + hi ≤ n) (hlo : lo ≤ n) (hsz : n < 2305843009213693952) :
    Calls Try.prog 121 #[.slice (some ⟨blk, off, none⟩) n cap, .int .i64 lo, .int .i64 hi, .int .i64 first] w fun e w' =>
      e = .returned (.tuple #[]) ∧ At blk off w0 w' n (siftDown ltInt hi first lo d) := by
  obtain ⟨h1, rfl, h3⟩ := hA
  exact (siftDown_any blk off cap lo hi first d w h1 hb hlo hsz).mono fun e w' h => ⟨h.1, (At.mk h1 rfl h3).trans h.2⟩

set_option maxHeartbeats 8000000 in
theorem heapSort_any (blk off cap a b n : Nat) (d : Array Int) (w0 w : World) (hA : At blk off w0 w n d) (hab : a < b) (hb : b ≤ n) (hsz : n < 2305843009213693952) :
    Calls Try.prog 107 #[.slice (some ⟨blk, off, none⟩) n cap, .int .i64 a, .int .i64 b] w fun e w' =>
      e = .returned (.tuple #[]) ∧ At blk off w0 w' n (heapSort ltInt d a b) := by
  have HA : Hid (At blk off w0 w n d) := hA
  obtain ⟨h, hh⟩ : ∃ h, b - a = h := ⟨_, rfl⟩
  obtain ⟨m, hm⟩ : ∃ m, (h - 1) / 2 = m := ⟨_, rfl⟩
  have HE : Hid (heapSort ltInt d a b = heapPop ltInt a h (heapBuild ltInt h a (m + 1) d)) := by
    show _ = _
    rw [heapSort, hh, hm]
  have hh0 : 0 < h := by omega
  have hah : a + h ≤ n := by omega
  have hmh : m < h := by omega
  have hbi : (b : Int) - (a : Int) = (h : Int) := by omega
  have hmi : ((h : Int) - 1).tdiv 2 = (m : Int) := by rw [Int.tdiv_eq_ediv_of_nonneg (by omega)]; omega
  clear hA hh hm
  go_enter Try.func107, Try.ntmps107
  go_wp2
  go_loopw [9] (fun vi wr => ∃ (k : Nat) (dk : Array Int), vi = .int .i64 ((k : Int) - 1) ∧ k ≤ m + 1 ∧ At blk off w0 wr n dk ∧ heapBuild ltInt h a k dk = heapBuild ltInt h a (m + 1) d) (fun vi _ => (intOf vi + 1).toNat)
  case atStart => exact ⟨m + 1, d, by congr 1; omega, Nat.le_refl _, HA.out, rfl⟩
  case round =>
    obtain ⟨k, dk, rfl, hk, hAt, hO⟩ := hrel
    have HO : Hid (heapBuild ltInt h a k dk = heapBuild ltInt h a (m + 1) d) := hO
    have HK : Hid (At blk off w0 wr n dk) := hAt
    clear hO hAt
    rcases k with _ | k
    · go_wp2
      have HB : Hid (dk = heapBuild ltInt h a (m + 1) d) := HO.out
      go_loopw [10] (fun vi wr2 => ∃ (k : Nat) (dj : Array Int), vi = .int .i64 ((k : Int) - 1) ∧ k ≤ h ∧ At blk off w0 wr2 n dj ∧ heapPop ltInt a k dj = heapPop ltInt a h dk) (fun vi _ => (intOf vi + 1).toNat)
      case atStart => exact ⟨h, dk, rfl, Nat.le_refl _, HK.out, rfl⟩
      case round =>
        obtain ⟨k, dj, rfl, hk, hAj, hI⟩ := hrel
        obtain ⟨G, hG, hcw, hfw⟩ := hAj.fam
        have HG : Hid (∀ t, G t = dj[t]!) := hG
        have HAj : Hid (At blk off w0 wr n dj) := hAj
        have HI : Hid (heapPop ltInt a k dj = heapPop ltInt a h dk) := hI
        clear hG hAj hI
        rcases k with _ | k
        · go_wp2
          go_end0
          exact ⟨rfl, by rw [HE.out, ← HB.out, ← HI.out]; exact HAj.out⟩
        · have hki : ((k + 1 : Nat) : Int) - 1 = (k : Int) := by omega
          rw [hki]
          clear hki
          obtain ⟨j, hj⟩ : ∃ j, a + k = j := ⟨_, rfl⟩
          have HJ : Hid (a + k = j) := hj
          have hji : (a : Int) + (k : Int) = (j : Int) := by omega
          have hjn : j < n := by omega
          have han : a < n := by omega
          clear hj
          have HSw : Hid (At blk off w0 ((wr.drew.setCell ⟨blk, off + a, none⟩ (enc dj[j]!)).setCell ⟨blk, off + j, none⟩ (enc dj[a]!)) n (swp dj a j)) := (HAj.out.drew).swap han hjn
          by_cases haj : a = j
          · subst haj
            go_wp2
            go_region
            all_goals go_wp2_with (go_at_call 121; refine (siftDown_at (lo := 0) (hi := k) (first := a) (n := n) (d := swp dj a a) (w0 := w0) (by rw [HG.out]; exact HSw.out) (by omega) (by omega) hsz).mono ?_; rintro e w' ⟨rfl, hw'⟩)
            go_roundw
            case rel =>
              repeat (apply Exists.intro)
              exact ⟨⟨k, _, rfl, by omega, hw', by rw [← HI.out, heapPop, HJ.out]⟩, rfl⟩
            case measure => simp [intOf]
          · go_wp2
            go_region
            all_goals go_wp2_with (go_at_call 121; refine (siftDown_at (lo := 0) (hi := k) (first := a) (n := n) (d := swp dj a j) (w0 := w0) (by rw [HG.out, HG.out]; exact HSw.out) (by omega) (by omega) hsz).mono ?_; rintro e w' ⟨rfl, hw'⟩)
            go_roundw
            case rel =>
              repeat (apply Exists.intro)
              exact ⟨⟨k, _, rfl, by omega, hw', by rw [← HI.out, heapPop, HJ.out]⟩, rfl⟩
            case measure => simp [intOf]
    · have hki : ((k + 1 : Nat) : Int) - 1 = (k : Int) := by omega
      rw [hki]
      clear hki
      go_wp2_with (go_at_call 121; refine (siftDown_at (lo := k) (hi := h) (first := a) (n := n) (d := dk) HK.out (by omega) (by omega) hsz).mono ?_; rintro e w' ⟨rfl, hw'⟩)
      go_roundw
      case rel => exact ⟨k, _, rfl, by omega, hw', by rw [← HO.out]; rfl⟩
      case measure => simp [intOf]
end SrtI
end Go.Proofs.Ytpmmpdkeahmdiaa
