/- Texts that were written apart, joined. -/
import Derived.Test.YtpmmpdkeahmdiaaDisk
import Derived.Sort.Row
import Derived.Sort.AssemblyPlain
import Derived.CellFam
import Derived.BigGuard
import Derived.BigCall
import Derived.BigQuiet
import Derived.Deep.QuietTactic
import Derived.RegionTactic
import Derived.BigRegion
import Derived.Handy
import Derived.Test.YtpmmpdkeahmdiaaBits
import Derived.Sort.WalkA14
import Derived.Sort.LotD5
import Derived.Sort.Walk7a
import Derived.Laws.Bits64b
import Derived.Deep.Cut
import Derived.Deep.CutRange
/- The library's sort at int: rows of numbers in memory, and what turns when one is sorted. -/
namespace Go.Proofs.Ytpmmpdkeahmdiaa
open Go.RowKit Go.Sort
set_option maxRecDepth 100000
namespace SrtI

abbrev enc : Int → Value := Value.int .i64
/-- Block blk has turned in the n cells from off on alone; other blocks stand; new ones may be. -/
structure RStep (blk off n : Nat) (w w' : World) : Prop where
  os : w'.os = w.os
  tape : w'.tape = w.tape
  output : w'.output = w.output
  size : w.heap.size ≤ w'.heap.size
  block : ∀ k, k < w.heap.size → k ≠ blk → w'.heap[k]? = w.heap[k]?
  own : ∀ c e fr, w.heap[blk]? = some (.cells c e fr) → ∃ c', w'.heap[blk]? = some (.cells c' e fr) ∧ c'.size = c.size ∧ ∀ k, k < off ∨ off + n ≤ k → c'[k]? = c[k]?
theorem RStep.refl (blk off n : Nat) (w : World) : RStep blk off n w w := ⟨rfl, rfl, rfl, Nat.le_refl _, fun _ _ _ => rfl, fun c _ _ h => ⟨c, h, rfl, fun _ _ => rfl⟩⟩
theorem RStep.trans {blk off n : Nat} {a b c : World} (h : RStep blk off n a b) (k : RStep blk off n b c) : RStep blk off n a c :=
  ⟨k.os.trans h.os, k.tape.trans h.tape, k.output.trans h.output, Nat.le_trans h.size k.size, fun i hi hr => (k.block i (Nat.lt_of_lt_of_le hi h.size) hr).trans (h.block i hi hr), fun c e fr hc => by
    obtain ⟨c1, h1, h2, h3⟩ := h.own c e fr hc
    obtain ⟨c2, k1, k2, k3⟩ := k.own c1 e fr h1
    exact ⟨c2, k1, k2.trans h2, fun i hi => (k3 i hi).trans (h3 i hi)⟩⟩
theorem RStep.drewN {blk off n : Nat} {a w : World} (h : RStep blk off n a w) (m : Nat) : RStep blk off n a (w.drewN m) := ⟨h.os, h.tape, h.output, h.size, h.block, h.own⟩
theorem RStep.drew {blk off n : Nat} {a w : World} (h : RStep blk off n a w) : RStep blk off n a w.drew := ⟨h.os, h.tape, h.output, h.size, h.block, h.own⟩
theorem RStep.setCell {blk off n : Nat} {a w : World} (h : RStep blk off n a w) {i : Nat} (hi : i < n) (v : Value) : RStep blk off n a (w.setCell ⟨blk, off + i, none⟩ v) :=
  h.trans ⟨rfl, rfl, rfl, by simp [World.setCell], fun k _ hk => Below.heap_setCell _ _ _ _ hk, fun c e fr hc => ⟨c.setIfInBounds (off + i) v, by simp [World.setCell, Array.getElem?_modify, hc], by simp, fun k hk => by
    rw [Array.getElem?_setIfInBounds_ne (by omega)]⟩⟩
theorem RStep.alloc {blk off n : Nat} {a w : World} (h : RStep blk off n a w) (hb : blk < w.heap.size) (o : Obj) : RStep blk off n a (w.alloc o) :=
  h.trans ⟨rfl, rfl, rfl, by simp, fun k hk _ => Below.heap_alloc _ _ _ hk, fun c e fr hc => ⟨c, (Below.heap_alloc _ _ _ hb).trans hc, rfl, fun _ _ => rfl⟩⟩
theorem holds_swap {w : World} {blk off : Nat} {d : Array Int} (h : Holds enc w blk off d) {i j : Nat} (hi : i < d.size) (hj : j < d.size) :
    Holds enc ((w.setCell ⟨blk, off + i, none⟩ (enc d[j]!)).setCell ⟨blk, off + j, none⟩ (enc d[i]!)) blk off (swp d i j) := by
  rw [show (w.setCell ⟨blk, off + i, none⟩ (enc d[j]!)).setCell ⟨blk, off + j, none⟩ (enc d[i]!) = putRow enc w blk off (swp d i j) from by
    rw [← putRow_swp enc w blk off d i j hi hj, putRow_self enc w blk off d h]]
  exact holds_putRow enc w blk off d (swp d i j) h (size_swp d i j)
theorem holds_drewN {w : World} {blk off : Nat} {d : Array Int} (h : Holds enc w blk off d) (n : Nat) : Holds enc (w.drewN n) blk off d := h
theorem holds_drew {w : World} {blk off : Nat} {d : Array Int} (h : Holds enc w blk off d) : Holds enc w.drew blk off d := h
theorem holds_same {w w' : World} {blk off : Nat} {d : Array Int} (h : Holds enc w blk off d) (e : w'.heap[blk]? = w.heap[blk]?) : Holds enc w' blk off d := fun j hj =>
  ⟨(World.cell?_of_block (w := w) (a := ⟨blk, off + j, none⟩) e).trans (h j hj).1, (World.frozen?_of_block (w := w) (a := ⟨blk, off + j, none⟩) e).trans (h j hj).2⟩
/-- A row whose numbers are d, behind what has been done since w. -/
structure At (blk off : Nat) (w w' : World) (n : Nat) (d : Array Int) : Prop where
  holds : Holds enc w' blk off d
  size : d.size = n
  step : RStep blk off n w w'
theorem At.drewN {blk off n : Nat} {w w' : World} {d : Array Int} (h : At blk off w w' n d) (m : Nat) : At blk off w (w'.drewN m) n d := ⟨h.holds, h.size, h.step.drewN m⟩
theorem At.drew {blk off n : Nat} {w w' : World} {d : Array Int} (h : At blk off w w' n d) : At blk off w w'.drew n d := ⟨h.holds, h.size, h.step.drew⟩
theorem At.swap {blk off n : Nat} {w w' : World} {d : Array Int} (h : At blk off w w' n d) {i j : Nat} (hi : i < n) (hj : j < n) :
    At blk off w ((w'.setCell ⟨blk, off + i, none⟩ (enc d[j]!)).setCell ⟨blk, off + j, none⟩ (enc d[i]!)) n (swp d i j) :=
  ⟨holds_swap h.holds (by rw [h.size]; exact hi) (by rw [h.size]; exact hj), by rw [size_swp]; exact h.size, (h.step.setCell hi _).setCell hj _⟩
theorem At.trans {blk off n : Nat} {w w1 w2 : World} {d d' : Array Int} (h : At blk off w w1 n d) (k : At blk off w1 w2 n d') : At blk off w w2 n d' := ⟨k.holds, k.size, h.step.trans k.step⟩
/-- The families that the walk reads. -/
theorem At.fam {blk off n : Nat} {w w' : World} {d : Array Int} (h : At blk off w w' n d) : ∃ G : Nat → Int, (∀ t, G t = d[t]!) ∧ (∀ t, t < n → w'.cell? ⟨blk, off + t, none⟩ = some (.int .i64 (G t))) ∧ ∀ t, t < n → w'.frozen? ⟨blk, off + t, none⟩ = false :=
  ⟨fun t => d[t]!, fun _ => rfl, fun t ht => (h.holds t (by rw [h.size]; exact ht)).1, fun t ht => (h.holds t (by rw [h.size]; exact ht)).2⟩

theorem wrapId {x : Int} (h1 : -9223372036854775808 ≤ x) (h2 : x ≤ 9223372036854775807) : IntKind.i64.wrap x = x := by
  simp [IntKind.wrap, IntKind.bits, IntKind.signed]; omega
set_option maxHeartbeats 1000000 in
theorem isNaN_any (x : Int) (w : World) : Calls Try.prog 124 #[.int .i64 x] w fun e w' => e = .returned (.bool false) ∧ w' = w := by
  go_enter Try.func124, Try.ntmps124
  go_wp2
  go_ret
  exact ⟨by simp, rfl⟩
set_option maxHeartbeats 1000000 in
theorem Less_any (x y : Int) (w : World) : Calls Try.prog 112 #[.int .i64 x, .int .i64 y] w fun e w' => e = .returned (.bool (ltInt x y)) ∧ w' = w := by
  go_enter Try.func112, Try.ntmps112
  go_wp2_with (go_at_call 124; refine (isNaN_any _ _).mono ?_; rintro e w' ⟨rfl, rfl⟩)
  go_ret
  exact ⟨rfl, rfl⟩
end SrtI
end Go.Proofs.Ytpmmpdkeahmdiaa

/- The library's sort at int: insertion, reversing, sifting, the heap. -/
namespace Go.Proofs.Ytpmmpdkeahmdiaa
open Go.RowKit Go.Sort
set_option maxRecDepth 100000
namespace SrtI

theorem ins_go {a j : Nat} {d : Array Int} (hj : a < j) (hl : ltInt d[j]! d[j - 1]! = true) : insInner ltInt a j d = insInner ltInt a (j - 1) (swp d j (j - 1)) := by
  obtain ⟨k, rfl⟩ : ∃ k, j = k + 1 := ⟨j - 1, by omega⟩
  rw [insInner]
  simp only [Nat.add_sub_cancel] at hl ⊢
  rw [if_pos (by simp [hj, hl])]
theorem ins_stop {a j : Nat} {d : Array Int} (h : j ≤ a ∨ ltInt d[j]! d[j - 1]! = false) : insInner ltInt a j d = d := by
  cases j with
  | zero => rfl
  | succ k =>
    rw [insInner]
    simp only [Nat.add_sub_cancel] at h
    rw [if_neg]
    rcases h with h | h
    · simp; omega
    · simp [h]
theorem outer_go {a b i : Nat} {d : Array Int} (h : i < b) : insOuter ltInt a b i d = insOuter ltInt a b (i + 1) (insInner ltInt a i d) := by rw [insOuter, if_pos h]
set_option maxHeartbeats 4000000 in
theorem insertionSort_any (blk off cap a b : Nat) (d : Array Int) (w : World) (hH : Holds enc w blk off d) (hab : a ≤ b) (hb : b ≤ d.size) (hsz : d.size < 4611686018427387904) :
    Calls Try.prog 106 #[.slice (some ⟨blk, off, none⟩) d.size cap, .int .i64 a, .int .i64 b] w fun e w' =>
      e = .returned (.tuple #[]) ∧ At blk off w w' d.size (Sort.insertionSort ltInt d a b) := by
  have HA : Hid (At blk off w w d.size d) := ⟨hH, rfl, RStep.refl _ _ _ _⟩
  have HE : Hid (Sort.insertionSort ltInt d a b = insOuter ltInt a b (a + 1) d) := rfl
  generalize hn : d.size = n at *
  clear hH hn
  go_enter Try.func106, Try.ntmps106
  go_wp2
  go_loopw [6] (fun vi wr => ∃ (i : Nat) (dk : Array Int), vi = .int .i64 i ∧ a < i ∧ i ≤ b + 1 ∧ At blk off w wr n dk ∧ insOuter ltInt a b i dk = insOuter ltInt a b (a + 1) d) (fun vi _ => b + 1 - (intOf vi).toNat)
  case atStart => exact ⟨a + 1, d, by go_num, by omega, by omega, HA.out, rfl⟩
  case round =>
    obtain ⟨i, dk, rfl, hai, hib, hAt, hO⟩ := hrel
    have HO : Hid (insOuter ltInt a b i dk = insOuter ltInt a b (a + 1) d) := hO
    have HK : Hid (At blk off w wr n dk) := hAt
    clear hO hAt
    go_wp2
    · have hib2 : i < b := by assumption
      go_loopw [7] (fun vj wr2 => ∃ (j : Nat) (dj : Array Int), vj = .int .i64 j ∧ a ≤ j ∧ j ≤ i ∧ At blk off w wr2 n dj ∧ insInner ltInt a j dj = insInner ltInt a i dk) (fun vj _ => (intOf vj).toNat)
      case atStart => exact ⟨i, dk, rfl, by omega, Nat.le_refl _, HK.out, rfl⟩
      case round =>
        obtain ⟨j, dj, rfl, haj, hji, hAj, hI⟩ := hrel
        obtain ⟨G, hG, hcw, hfw⟩ := hAj.fam
        have HG : Hid (∀ t, G t = dj[t]!) := hG
        have HAj : Hid (At blk off w wr n dj) := hAj
        have HI : Hid (insInner ltInt a j dj = insInner ltInt a i dk) := hI
        clear hG hAj hI
        go_wp2
        by_cases hja : a < j
        · go_quiet (first | (go_at_call 112; refine Calls.quiet_of_same (Less_any _ _ _)))
          go_wp2
          · have hl : ltInt (G j) (G (j - 1)) = true := by assumption
            go_region
            all_goals go_wp2
            go_roundw
            case rel =>
              refine ⟨j - 1, swp dj j (j - 1), by congr 1; omega, by omega, by omega, ?_, ?_⟩
              · rw [HG.out, HG.out]
                exact ((HAj.out.drewN _).drew).swap (by omega) (by omega)
              · rw [← HI.out, ins_go hja (by rw [← HG.out, ← HG.out]; exact hl)]
            case measure => simp [intOf]; omega
          · have hl : ltInt (G j) (G (j - 1)) = false := by assumption
            go_roundw
            case rel => exact ⟨i + 1, dj, by go_num, by omega, by omega, HAj.out.drewN _, by rw [← HO.out, outer_go hib2, ← HI.out, ins_stop (.inr (by rw [← HG.out, ← HG.out]; exact hl))]⟩
            case measure => simp [intOf]; omega
        · go_quiet (first | (go_at_call 112; refine Calls.quiet_of_same (Less_any _ _ _)))
          go_wp2
          go_roundw
          case rel => exact ⟨i + 1, dj, by go_num, by omega, by omega, HAj.out.drewN _, by rw [← HO.out, outer_go hib2, ← HI.out, ins_stop (.inl (by omega))]⟩
          case measure => simp [intOf]; omega
    · have hge : ¬ i < b := by omega
      go_end0
      exact ⟨rfl, by rw [HE.out, ← HO.out, insOuter, if_neg hge]; exact HK.out⟩
end SrtI
end Go.Proofs.Ytpmmpdkeahmdiaa

/- The library's sort at int: reversing, sifting, the heap. -/
namespace Go.Proofs.Ytpmmpdkeahmdiaa
open Go.RowKit Go.Sort
set_option maxRecDepth 100000
namespace SrtI

theorem bnot_t {b : Bool} (h : (!b) = true) : b = false := by cases b; rfl; cases h
theorem bnot_f {b : Bool} (h : (!b) = false) : b = true := by cases b; cases h; rfl
theorem bnot_n {b : Bool} (h : ¬ (!b) = true) : b = true := by cases b; exact absurd rfl h; rfl
theorem rev_go {i j : Nat} {d : Array Int} (h : i < j) : reverseLoop i j d = reverseLoop (i + 1) (j - 1) (swp d i j) := by rw [reverseLoop, if_pos h]
theorem rev_stop {i j : Nat} {d : Array Int} (h : ¬ i < j) : reverseLoop i j d = d := by rw [reverseLoop, if_neg h]
set_option maxHeartbeats 4000000 in
theorem reverseRange_any (blk off cap a b : Nat) (d : Array Int) (w : World) (hH : Holds enc w blk off d) (hab : a < b) (hb : b ≤ d.size) (hsz : d.size < 4611686018427387904) :
    Calls Try.prog 110 #[.slice (some ⟨blk, off, none⟩) d.size cap, .int .i64 a, .int .i64 b] w fun e w' =>
      e = .returned (.tuple #[]) ∧ At blk off w w' d.size (reverseRange d a b) := by
  have HA : Hid (At blk off w w d.size d) := ⟨hH, rfl, RStep.refl _ _ _ _⟩
  have HE : Hid (reverseRange d a b = reverseLoop a (b - 1) d) := rfl
  generalize hn : d.size = n at *
  clear hH hn
  go_enter Try.func110, Try.ntmps110
  go_wp2
  go_loopw [6, 7] (fun vi vj wr => ∃ (i j : Nat) (dk : Array Int), vi = .int .i64 i ∧ vj = .int .i64 j ∧ i ≤ b ∧ j < b ∧ At blk off w wr n dk ∧ reverseLoop i j dk = reverseLoop a (b - 1) d) (fun vi _ _ => b - (intOf vi).toNat)
  case atStart => exact ⟨a, b - 1, d, rfl, by congr 1; omega, by omega, by omega, HA.out, rfl⟩
  case round =>
    obtain ⟨i, j, dk, rfl, rfl, hi, hj, hAt, hO⟩ := hrel
    obtain ⟨G, hG, hcw, hfw⟩ := hAt.fam
    have HG : Hid (∀ t, G t = dk[t]!) := hG
    have HO : Hid (reverseLoop i j dk = reverseLoop a (b - 1) d) := hO
    have HK : Hid (At blk off w wr n dk) := hAt
    clear hO hAt hG
    by_cases hij : i < j
    · go_wp2
      go_region
      all_goals go_wp2
      go_roundw
      case rel =>
        refine ⟨i + 1, j - 1, swp dk i j, by go_num, by congr 1; omega, by omega, by omega, ?_, by rw [← HO.out, rev_go hij]⟩
        rw [HG.out, HG.out]
        exact (HK.out.drew).swap (by omega) (by omega)
      case measure => simp [intOf]; omega
    · go_wp2
      go_end0
      exact ⟨rfl, by rw [HE.out, ← HO.out, rev_stop hij]; exact HK.out⟩

theorem sd_stop {hi f r : Nat} {d : Array Int} (h : 2 * r + 1 ≥ hi) : siftDown ltInt hi f r d = d := by rw [siftDown, dif_pos h]
theorem sd_right {hi f r : Nat} {d : Array Int} (h : 2 * r + 2 < hi) (hl : ltInt d[f + (2 * r + 1)]! d[f + (2 * r + 1) + 1]! = true) :
    siftDown ltInt hi f r d = if !ltInt d[f + r]! d[f + (2 * r + 2)]! then d else siftDown ltInt hi f (2 * r + 2) (swp d (f + r) (f + (2 * r + 2))) := by
  rw [siftDown, dif_neg (by omega), if_pos (by simp [hl]; omega)]
  split
  · rfl
  · first | rfl | rw [dif_pos h]
theorem sd_left {hi f r : Nat} {d : Array Int} (h : 2 * r + 1 < hi) (hl : ¬ (2 * r + 2 < hi ∧ ltInt d[f + (2 * r + 1)]! d[f + (2 * r + 1) + 1]! = true)) :
    siftDown ltInt hi f r d = if !ltInt d[f + r]! d[f + (2 * r + 1)]! then d else siftDown ltInt hi f (2 * r + 1) (swp d (f + r) (f + (2 * r + 1))) := by
  rw [siftDown, dif_neg (by omega), if_neg (by simp only [Bool.and_eq_true, decide_eq_true_eq]; exact fun x => hl x)]
set_option maxHeartbeats 8000000 in
theorem siftDown_any (blk off cap lo hi first : Nat) (d : Array Int) (w : World) (hH : Holds enc w blk off d) (hb : first + hi ≤ d.size) (hlo : lo ≤ d.size) (hsz : d.size < 2305843009213693952) :
    Calls Try.prog 121 #[.slice (some ⟨blk, off, none⟩) d.size cap, .int .i64 lo, .int .i64 hi, .int .i64 first] w fun e w' =>
      e = .returned (.tuple #[]) ∧ At blk off w w' d.size (siftDown ltInt hi first lo d) := by
  have HA : Hid (At blk off w w d.size d) := ⟨hH, rfl, RStep.refl _ _ _ _⟩
  generalize hn : d.size = n at *
  clear hH hn
  go_enter Try.func121, Try.ntmps121
  go_wp2
  go_loopw [8] (fun vr wr => ∃ (r : Nat) (dk : Array Int), vr = .int .i64 r ∧ r ≤ n ∧ At blk off w wr n dk ∧ siftDown ltInt hi first r dk = siftDown ltInt hi first lo d) (fun vr _ => n + 1 - (intOf vr).toNat)
  case atStart => exact ⟨lo, d, rfl, hlo, HA.out, rfl⟩
  case round =>
    obtain ⟨r, dk, rfl, hr, hAt, hO⟩ := hrel
    obtain ⟨G, hG, hcw, hfw⟩ := hAt.fam
    have HG : Hid (∀ t, G t = dk[t]!) := hG
    have HO : Hid (siftDown ltInt hi first r dk = siftDown ltInt hi first lo d) := hO
    have HK : Hid (At blk off w wr n dk) := hAt
    clear hO hAt hG
    by_cases hc : 2 * r + 1 < hi
    · obtain ⟨c, hcd⟩ : ∃ c : Nat, 2 * r + 1 = c := ⟨_, rfl⟩
      have HC : Hid (2 * r + 1 = c) := hcd
      have hci : (2 : Int) * (r : Int) + 1 = (c : Int) := by omega
      have hch : c < hi := by omega
      have hrc : r < c := by omega
      have hrh : r < hi := by omega
      have hfr : (first : Int) + (r : Int) < (n : Int) := by omega
      clear hcd
      by_cases hc2 : c + 1 < hi
      · have hc2' : (c : Int) + 1 < (hi : Int) := by omega
        go_wp2
        clear hci
        go_quiet (first | (go_at_call 112; refine Calls.quiet_of_same (Less_any _ _ _)))
        go_wp2
        · have hl : ltInt (G (first + c)) (G (first + c + 1)) = true := by assumption
          obtain ⟨e, hed⟩ : ∃ e : Nat, c + 1 = e := ⟨_, rfl⟩
          have hei : (c : Int) + 1 = (e : Int) := by omega
          have heh : e < hi := by omega
          have hre : r < e := by omega
          have HSD : Hid (siftDown ltInt hi first r dk = if !ltInt dk[first + r]! dk[first + e]! then dk else siftDown ltInt hi first e (swp dk (first + r) (first + e))) := by
            have hh := HC.out
            have e1 : e = 2 * r + 2 := by omega
            subst hh
            show _ = _
            rw [e1]
            exact sd_right (by omega) (by rw [← HG.out, ← HG.out]; exact hl)
          clear hl hed
          rw [hei]
          clear hei
          obtain ⟨wq, hwq⟩ : ∃ wq : World, wq = wr.drewN nq := ⟨_, rfl⟩
          have hcq : ∀ t, t < n → wq.cell? ⟨blk, off + t, none⟩ = some (.int .i64 (G t)) := by rw [hwq]; exact hcw
          have hfq : ∀ t, t < n → wq.frozen? ⟨blk, off + t, none⟩ = false := by rw [hwq]; exact hfw
          have HQ : Hid (At blk off w wq n dk) := by subst hwq; exact HK.out.drewN _
          rw [← hwq]
          clear hwq hcw hfw HK
          have hw1 : IntKind.i64.wrap ((first : Int) + (r : Int)) = (first : Int) + (r : Int) := wrapId (by omega) (by omega)
          have hw2 : IntKind.i64.wrap ((first : Int) + (e : Int)) = (first : Int) + (e : Int) := wrapId (by omega) (by omega)
          have hx1 : (0 : Int) ≤ (first : Int) + (r : Int) := by omega
          have hx2 : (first : Int) + (e : Int) < (n : Int) := by omega
          have hx3 : (0 : Int) ≤ (first : Int) + (e : Int) := by omega
          have ht1 : ((first : Int) + (r : Int)).toNat = first + r := by omega
          have ht2 : ((first : Int) + (e : Int)).toNat = first + e := by omega
          go_quiet (first | (go_at_call 112; refine Calls.quiet_of_same (Less_any _ _ _)))
          go_wp2
          · have hl2 : ltInt (G (first + r)) (G (first + e)) = false := by first | assumption | (refine bnot_t ?_; assumption)
            go_returns
            exact ⟨rfl, by rw [← HO.out, HSD.out, ← HG.out, ← HG.out, hl2, if_pos (by simp)]; exact HQ.out.drewN _⟩
          · have hl2 : ltInt (G (first + r)) (G (first + e)) = true := by first | assumption | (refine bnot_f ?_; assumption) | (refine bnot_n ?_; assumption)
            go_region
            all_goals go_wp2
            go_roundw
            case rel =>
              refine ⟨e, swp dk (first + r) (first + e), rfl, by omega, ?_, by rw [← HO.out, HSD.out, ← HG.out, ← HG.out, hl2, if_neg (by simp)]⟩
              rw [HG.out, HG.out]
              have := ((HQ.out.drewN nq).drew).swap (i := first + r) (j := first + e) (by omega) (by omega)
              simpa [Nat.add_assoc] using this
            case measure => simp [intOf]; omega
        · have hl : ltInt (G (first + c)) (G (first + c + 1)) = false := by assumption
          obtain ⟨e, hed⟩ : ∃ e : Nat, c = e := ⟨_, rfl⟩
          subst hed
          have heh : c < hi := hch
          have hre : r < c := hrc
          have HSD : Hid (siftDown ltInt hi first r dk = if !ltInt dk[first + r]! dk[first + c]! then dk else siftDown ltInt hi first c (swp dk (first + r) (first + c))) := by
            have hh := HC.out
            subst hh
            exact sd_left (by omega) (fun hx => by have := hx.2; rw [← HG.out, ← HG.out, hl] at this; cases this)
          clear hl
          obtain ⟨wq, hwq⟩ : ∃ wq : World, wq = wr.drewN nq := ⟨_, rfl⟩
          have hcq : ∀ t, t < n → wq.cell? ⟨blk, off + t, none⟩ = some (.int .i64 (G t)) := by rw [hwq]; exact hcw
          have hfq : ∀ t, t < n → wq.frozen? ⟨blk, off + t, none⟩ = false := by rw [hwq]; exact hfw
          have HQ : Hid (At blk off w wq n dk) := by subst hwq; exact HK.out.drewN _
          rw [← hwq]
          clear hwq hcw hfw HK
          have hw1 : IntKind.i64.wrap ((first : Int) + (r : Int)) = (first : Int) + (r : Int) := wrapId (by omega) (by omega)
          have hw2 : IntKind.i64.wrap ((first : Int) + (c : Int)) = (first : Int) + (c : Int) := wrapId (by omega) (by omega)
          have hx1 : (0 : Int) ≤ (first : Int) + (r : Int) := by omega
          have hx2 : (first : Int) + (c : Int) < (n : Int) := by omega
          have hx3 : (0 : Int) ≤ (first : Int) + (c : Int) := by omega
          have ht1 : ((first : Int) + (r : Int)).toNat = first + r := by omega
          have ht2 : ((first : Int) + (c : Int)).toNat = first + c := by omega
          go_quiet (first | (go_at_call 112; refine Calls.quiet_of_same (Less_any _ _ _)))
          go_wp2
          · have hl2 : ltInt (G (first + r)) (G (first + c)) = false := by first | assumption | (refine bnot_t ?_; assumption)
            go_returns
            exact ⟨rfl, by rw [← HO.out, HSD.out, ← HG.out, ← HG.out, hl2, if_pos (by simp)]; exact HQ.out.drewN _⟩
          · have hl2 : ltInt (G (first + r)) (G (first + c)) = true := by first | assumption | (refine bnot_f ?_; assumption) | (refine bnot_n ?_; assumption)
            go_region
            all_goals go_wp2
            go_roundw
            case rel =>
              refine ⟨c, swp dk (first + r) (first + c), rfl, by omega, ?_, by rw [← HO.out, HSD.out, ← HG.out, ← HG.out, hl2, if_neg (by simp)]⟩
              rw [HG.out, HG.out]
              have := ((HQ.out.drewN nq).drew).swap (i := first + r) (j := first + c) (by omega) (by omega)
              simpa [Nat.add_assoc] using this
            case measure => simp [intOf]; omega
      · have hc2' : decide ((c : Int) + 1 < (hi : Int)) = false := by simp; omega
        go_wp2
        clear hci
        go_quiet (first | (go_at_call 112; refine Calls.quiet_of_same (Less_any _ _ _)))
        go_wp2
        have heh : c < hi := hch
        have hre : r < c := hrc
        have HSD : Hid (siftDown ltInt hi first r dk = if !ltInt dk[first + r]! dk[first + c]! then dk else siftDown ltInt hi first c (swp dk (first + r) (first + c))) := by
          have hh := HC.out
          subst hh
          exact sd_left (by omega) (fun hx => by have := hx.1; omega)
        obtain ⟨wq, hwq⟩ : ∃ wq : World, wq = wr.drewN nq := ⟨_, rfl⟩
        have hcq : ∀ t, t < n → wq.cell? ⟨blk, off + t, none⟩ = some (.int .i64 (G t)) := by rw [hwq]; exact hcw
        have hfq : ∀ t, t < n → wq.frozen? ⟨blk, off + t, none⟩ = false := by rw [hwq]; exact hfw
        have HQ : Hid (At blk off w wq n dk) := by subst hwq; exact HK.out.drewN _
        rw [← hwq]
        clear hwq hcw hfw HK
        have hw1 : IntKind.i64.wrap ((first : Int) + (r : Int)) = (first : Int) + (r : Int) := wrapId (by omega) (by omega)
        have hw2 : IntKind.i64.wrap ((first : Int) + (c : Int)) = (first : Int) + (c : Int) := wrapId (by omega) (by omega)
        have hx1 : (0 : Int) ≤ (first : Int) + (r : Int) := by omega
        have hx2 : (first : Int) + (c : Int) < (n : Int) := by omega
        have hx3 : (0 : Int) ≤ (first : Int) + (c : Int) := by omega
        have ht1 : ((first : Int) + (r : Int)).toNat = first + r := by omega
        have ht2 : ((first : Int) + (c : Int)).toNat = first + c := by omega
        go_quiet (first | (go_at_call 112; refine Calls.quiet_of_same (Less_any _ _ _)))
        go_wp2
        · have hl2 : ltInt (G (first + r)) (G (first + c)) = false := by first | assumption | (refine bnot_t ?_; assumption)
          go_returns
          exact ⟨rfl, by rw [← HO.out, HSD.out, ← HG.out, ← HG.out, hl2, if_pos (by simp)]; exact HQ.out.drewN _⟩
        · have hl2 : ltInt (G (first + r)) (G (first + c)) = true := by first | assumption | (refine bnot_f ?_; assumption) | (refine bnot_n ?_; assumption)
          go_region
          all_goals go_wp2
          go_roundw
          case rel =>
            refine ⟨c, swp dk (first + r) (first + c), rfl, by omega, ?_, by rw [← HO.out, HSD.out, ← HG.out, ← HG.out, hl2, if_neg (by simp)]⟩
            rw [HG.out, HG.out]
            have := ((HQ.out.drewN nq).drew).swap (i := first + r) (j := first + c) (by omega) (by omega)
            simpa [Nat.add_assoc] using this
          case measure => simp [intOf]; omega
    · go_wp2
      go_end0
      exact ⟨rfl, by rw [← HO.out, sd_stop (by omega)]; exact HK.out⟩
end SrtI
end Go.Proofs.Ytpmmpdkeahmdiaa

/- The library's sort at int: the heap. -/
namespace Go.Proofs.Ytpmmpdkeahmdiaa
open Go.RowKit Go.Sort
set_option maxRecDepth 100000
namespace SrtI

theorem siftDown_at {blk off cap lo hi first n : Nat} {d : Array Int} {w0 w : World} (hA : At blk off w0 w n d) (hb : first + hi ≤ n) (hlo : lo ≤ n) (hsz : n < 2305843009213693952) :
    Calls Try.prog 121 #[.slice (some ⟨blk, off, none⟩) n cap, .int .i64 lo, .int .i64 hi, .int .i64 first] w fun e w' =>
      e = .returned (.tuple #[]) ∧ At blk off w0 w' n (siftDown ltInt hi first lo d) := by
  obtain ⟨h1, rfl, h3⟩ := hA
  exact (siftDown_any blk off cap lo hi first d w h1 hb hlo hsz).mono fun e w' h => ⟨h.1, (At.mk h1 rfl h3).trans h.2⟩

set_option maxHeartbeats 8000000 in
theorem heapSort_any (blk off cap a b n : Nat) (d : Array Int) (w0 w : World) (hA : At blk off w0 w n d) (hab : a < b) (hb : b ≤ n) (hsz : n < 2305843009213693952) :
    Calls Try.prog 107 #[.slice (some ⟨blk, off, none⟩) n cap, .int .i64 a, .int .i64 b] w fun e w' =>
      e = .returned (.tuple #[]) ∧ At blk off w0 w' n (heapSort ltInt d a b) := by
  have HA : Hid (At blk off w0 w n d) := hA
  obtain ⟨h, hh⟩ : ∃ h, b - a = h := ⟨_, rfl⟩
  obtain ⟨m, hm⟩ : ∃ m, (h - 1) / 2 = m := ⟨_, rfl⟩
  have HE : Hid (heapSort ltInt d a b = heapPop ltInt a h (heapBuild ltInt h a (m + 1) d)) := by
    show _ = _
    rw [heapSort, hh, hm]
  have hh0 : 0 < h := by omega
  have hah : a + h ≤ n := by omega
  have hmh : m < h := by omega
  have hbi : (b : Int) - (a : Int) = (h : Int) := by omega
  have hmi : ((h : Int) - 1).tdiv 2 = (m : Int) := by rw [Int.tdiv_eq_ediv_of_nonneg (by omega)]; omega
  clear hA hh hm
  go_enter Try.func107, Try.ntmps107
  go_wp2
  go_loopw [9] (fun vi wr => ∃ (k : Nat) (dk : Array Int), vi = .int .i64 ((k : Int) - 1) ∧ k ≤ m + 1 ∧ At blk off w0 wr n dk ∧ heapBuild ltInt h a k dk = heapBuild ltInt h a (m + 1) d) (fun vi _ => (intOf vi + 1).toNat)
  case atStart => exact ⟨m + 1, d, by congr 1; omega, Nat.le_refl _, HA.out, rfl⟩
  case round =>
    obtain ⟨k, dk, rfl, hk, hAt, hO⟩ := hrel
    have HO : Hid (heapBuild ltInt h a k dk = heapBuild ltInt h a (m + 1) d) := hO
    have HK : Hid (At blk off w0 wr n dk) := hAt
    clear hO hAt
    rcases k with _ | k
    · go_wp2
      have HB : Hid (dk = heapBuild ltInt h a (m + 1) d) := HO.out
      go_loopw [10] (fun vi wr2 => ∃ (k : Nat) (dj : Array Int), vi = .int .i64 ((k : Int) - 1) ∧ k ≤ h ∧ At blk off w0 wr2 n dj ∧ heapPop ltInt a k dj = heapPop ltInt a h dk) (fun vi _ => (intOf vi + 1).toNat)
      case atStart => exact ⟨h, dk, rfl, Nat.le_refl _, HK.out, rfl⟩
      case round =>
        obtain ⟨k, dj, rfl, hk, hAj, hI⟩ := hrel
        obtain ⟨G, hG, hcw, hfw⟩ := hAj.fam
        have HG : Hid (∀ t, G t = dj[t]!) := hG
        have HAj : Hid (At blk off w0 wr n dj) := hAj
        have HI : Hid (heapPop ltInt a k dj = heapPop ltInt a h dk) := hI
        clear hG hAj hI
        rcases k with _ | k
        · go_wp2
          go_end0
          exact ⟨rfl, by rw [HE.out, ← HB.out, ← HI.out]; exact HAj.out⟩
        · have hki : ((k + 1 : Nat) : Int) - 1 = (k : Int) := by omega
          rw [hki]
          clear hki
          obtain ⟨j, hj⟩ : ∃ j, a + k = j := ⟨_, rfl⟩
          have HJ : Hid (a + k = j) := hj
          have hji : (a : Int) + (k : Int) = (j : Int) := by omega
          have hjn : j < n := by omega
          have han : a < n := by omega
          clear hj
          have HSw : Hid (At blk off w0 ((wr.drew.setCell ⟨blk, off + a, none⟩ (enc dj[j]!)).setCell ⟨blk, off + j, none⟩ (enc dj[a]!)) n (swp dj a j)) := (HAj.out.drew).swap han hjn
          by_cases haj : a = j
          · subst haj
            go_wp2
            go_region
            all_goals go_wp2_with (go_at_call 121; refine (siftDown_at (lo := 0) (hi := k) (first := a) (n := n) (d := swp dj a a) (w0 := w0) (by rw [HG.out]; exact HSw.out) (by omega) (by omega) hsz).mono ?_; rintro e w' ⟨rfl, hw'⟩)
            go_roundw
            case rel =>
              repeat (apply Exists.intro)
              exact ⟨⟨k, _, rfl, by omega, hw', by rw [← HI.out, heapPop, HJ.out]⟩, rfl⟩
            case measure => simp [intOf]
          · go_wp2
            go_region
            all_goals go_wp2_with (go_at_call 121; refine (siftDown_at (lo := 0) (hi := k) (first := a) (n := n) (d := swp dj a j) (w0 := w0) (by rw [HG.out, HG.out]; exact HSw.out) (by omega) (by omega) hsz).mono ?_; rintro e w' ⟨rfl, hw'⟩)
            go_roundw
            case rel =>
              repeat (apply Exists.intro)
              exact ⟨⟨k, _, rfl, by omega, hw', by rw [← HI.out, heapPop, HJ.out]⟩, rfl⟩
            case measure => simp [intOf]
    · have hki : ((k + 1 : Nat) : Int) - 1 = (k : Int) := by omega
      rw [hki]
      clear hki
      go_wp2_with (go_at_call 121; refine (siftDown_at (lo := k) (hi := h) (first := a) (n := n) (d := dk) HK.out (by omega) (by omega) hsz).mono ?_; rintro e w' ⟨rfl, hw'⟩)
      go_roundw
      case rel => exact ⟨k, _, rfl, by omega, hw', by rw [← HO.out]; rfl⟩
      case measure => simp [intOf]
end SrtI
end Go.Proofs.Ytpmmpdkeahmdiaa

/- The library's sort at int: the partition into the equal and the greater. -/
namespace Go.Proofs.Ytpmmpdkeahmdiaa
open Go.RowKit Go.Sort
set_option maxRecDepth 100000
namespace SrtI

theorem up_go {p : Int → Bool} {d : Array Int} {j i : Nat} (h : i ≤ j) (hp : p d[i]! = true) : scanUp p d j i = scanUp p d j (i + 1) := by rw [scanUp, if_pos (by simp [h, hp])]
theorem up_stop {p : Int → Bool} {d : Array Int} {j i : Nat} (h : ¬ i ≤ j ∨ p d[i]! = false) : scanUp p d j i = i := by
  rw [scanUp, if_neg]
  rcases h with h | h
  · simp [h]
  · simp [h]
theorem down_go {p : Int → Bool} {d : Array Int} {j i : Nat} (h0 : 0 < j) (h : i ≤ j) (hp : p d[j]! = true) : scanDown p d i j = scanDown p d i (j - 1) := by
  obtain ⟨k, rfl⟩ : ∃ k, j = k + 1 := ⟨j - 1, by omega⟩
  rw [scanDown, if_pos (by simp [h, hp])]
  rfl
theorem down_stop {p : Int → Bool} {d : Array Int} {j i : Nat} (h : ¬ i ≤ j ∨ p d[j]! = false) : scanDown p d i j = j := by
  cases j with
  | zero => rfl
  | succ k =>
    rw [scanDown, if_neg]
    rcases h with h | h
    · simp [h]
    · simp [h]
/-- The two scans never meet at one place. -/
theorem scans_apart {p q : Int → Bool} (hq : ∀ x, q x = !p x) {d : Array Int} {i j i2 j2 : Nat} (h1 : scanUp p d j i = i2) (h2 : scanDown q d i2 j = j2) (hi : 0 < i) (hle : i2 ≤ j2) : i2 < j2 := by
  rcases Nat.lt_or_ge i2 j2 with h | h
  · exact h
  · have e : i2 = j2 := by omega
    have hge := scanUp_ge p d j i
    have hdl := scanDown_le q d i2 j
    have s1 := (scanUp_spec p d j _ i rfl).2.2.2
    have s2 := (scanDown_spec q d i2 j).2.2.2
    rw [h1] at s1 hge
    rw [h2] at s2 hdl
    have a1 := s1 (by omega)
    have a2 := s2 (by omega) (by omega)
    rw [hq, ← e, a1] at a2
    cases a2

set_option maxHeartbeats 16000000 in
theorem partitionEqual_any (blk off cap a b pivot n : Nat) (d : Array Int) (w0 w : World) (hA : At blk off w0 w n d) (hap : a ≤ pivot) (hpb : pivot < b) (hb : b ≤ n) (hsz : n < 2305843009213693952) :
    Calls Try.prog 113 #[.slice (some ⟨blk, off, none⟩) n cap, .int .i64 a, .int .i64 b, .int .i64 pivot] w fun e w' =>
      e = .returned (.int .i64 ((partitionEqual ltInt d a b pivot).1 : Nat)) ∧ At blk off w0 w' n (partitionEqual ltInt d a b pivot).2 := by
  obtain ⟨D, hD⟩ : ∃ D, swp d a pivot = D := ⟨_, rfl⟩
  have HE : Hid (partitionEqual ltInt d a b pivot = partEqLoop ltInt a (a + 1) (b - 1) D) := by show _ = _; rw [partitionEqual, hD]
  have han : a < n := by omega
  have hpn : pivot < n := by omega
  obtain ⟨G, hG, hcw, hfw⟩ := hA.fam
  have HG : Hid (∀ t, G t = d[t]!) := hG
  have HSw : Hid (At blk off w0 ((w.drew.setCell ⟨blk, off + a, none⟩ (enc d[pivot]!)).setCell ⟨blk, off + pivot, none⟩ (enc d[a]!)) n D) := by rw [← hD]; exact (hA.drew).swap han hpn
  clear hG hA hD
  go_enter Try.func113, Try.ntmps113
  go_wp2
  by_cases hapv : a = pivot
  · subst hapv
    go_region
    all_goals go_wp2
    go_loopw [9, 10] (fun vi vj wr => ∃ (i j : Nat) (dk : Array Int), vi = .int .i64 i ∧ vj = .int .i64 j ∧ a < i ∧ i ≤ j + 1 ∧ j < b ∧ At blk off w0 wr n dk ∧ partEqLoop ltInt a i j dk = partEqLoop ltInt a (a + 1) (b - 1) D) (fun vi vj _ => (intOf vj + 1 - intOf vi).toNat)
    case atStart => exact ⟨a + 1, b - 1, D, by go_num, by congr 1; omega, by omega, by omega, by omega, (by simp only [HG.out]; exact HSw.out), rfl⟩
    case round =>
      obtain ⟨i, j, dk, rfl, rfl, hai, hij, hjb, hAt, hO⟩ := hrel
      have HO : Hid (partEqLoop ltInt a i j dk = partEqLoop ltInt a (a + 1) (b - 1) D) := hO
      have HK : Hid (At blk off w0 wr n dk) := hAt
      clear hO hAt
      go_wp2
      go_loopw [9] (fun vi wr2 => ∃ (i2 : Nat), vi = .int .i64 i2 ∧ i ≤ i2 ∧ i2 ≤ j + 1 ∧ At blk off w0 wr2 n dk ∧ scanUp (fun x => !ltInt dk[a]! x) dk j i2 = scanUp (fun x => !ltInt dk[a]! x) dk j i) (fun vi _ => (j + 1 - (intOf vi).toNat))
      case atStart => exact ⟨i, rfl, Nat.le_refl _, hij, HK.out, rfl⟩
      case round =>
        obtain ⟨i2, rfl, hi2, hi2j, hAt2, hI⟩ := hrel
        obtain ⟨G2, hG2, hcw2, hfw2⟩ := hAt2.fam
        have HG2 : Hid (∀ t, G2 t = dk[t]!) := hG2
        have HI : Hid (scanUp (fun x => !ltInt dk[a]! x) dk j i2 = scanUp (fun x => !ltInt dk[a]! x) dk j i) := hI
        have HK2 : Hid (At blk off w0 wr n dk) := hAt2
        clear hI hAt2 hG2
        by_cases hle : i2 ≤ j
        · have hi2n : i2 < n := by omega
          go_wp2
          go_quiet (first | (go_at_call 112; refine Calls.quiet_of_same (Less_any _ _ _)))
          go_wp2
          · have hl : ltInt (G2 a) (G2 i2) = false := by first | assumption | (refine bnot_t ?_; assumption)
            go_roundw
            case rel => exact ⟨i2 + 1, by go_num, by omega, by omega, HK2.out.drewN _, by rw [← HI.out, ← up_go hle (by show (!_) = true; rw [← HG2.out, ← HG2.out, hl]; rfl)]⟩
            case measure => simp [intOf]; omega
          · have hl : ltInt (G2 a) (G2 i2) = true := by first | assumption | (refine bnot_f ?_; assumption) | (refine bnot_n ?_; assumption)
            have HU : Hid (scanUp (fun x => !ltInt dk[a]! x) dk j i = i2) := by
              show _ = _
              rw [← HI.out, up_stop (.inr (by show (!_) = false; rw [← HG2.out, ← HG2.out, hl]; rfl))]
            have HK3 : Hid (At blk off w0 (wr.drewN nq) n dk) := HK2.out.drewN _
            go_loopw [10] (fun vj wr2 => ∃ (j2 : Nat), vj = .int .i64 j2 ∧ i2 ≤ j2 + 1 ∧ j2 ≤ j ∧ At blk off w0 wr2 n dk ∧ scanDown (fun x => ltInt dk[a]! x) dk i2 j2 = scanDown (fun x => ltInt dk[a]! x) dk i2 j) (fun vj _ => (intOf vj).toNat)
            case atStart => exact ⟨j, rfl, hi2j, Nat.le_refl _, HK3.out, rfl⟩
            case round =>
              obtain ⟨j2, rfl, hij2, hj2, hAt3, hJ⟩ := hrel
              obtain ⟨G3, hG3, hcw3, hfw3⟩ := hAt3.fam
              have HG3 : Hid (∀ t, G3 t = dk[t]!) := hG3
              have HJ : Hid (scanDown (fun x => ltInt dk[a]! x) dk i2 j2 = scanDown (fun x => ltInt dk[a]! x) dk i2 j) := hJ
              have HK4 : Hid (At blk off w0 wr n dk) := hAt3
              clear hJ hAt3 hG3
              by_cases hle2 : i2 ≤ j2
              · have hj2n : j2 < n := by omega
                go_wp2
                go_quiet (first | (go_at_call 112; refine Calls.quiet_of_same (Less_any _ _ _)))
                go_wp2
                · have hl2 : ltInt (G3 a) (G3 j2) = true := by assumption
                  go_roundw
                  case rel => exact ⟨j2 - 1, by congr 1; omega, by omega, by omega, HK4.out.drewN _, by rw [← HJ.out, ← down_go (by omega) hle2 (by show _ = true; rw [← HG3.out, ← HG3.out, hl2])]⟩
                  case measure => simp [intOf]; omega
                · have hl2 : ltInt (G3 a) (G3 j2) = false := by assumption
                  have HD : Hid (scanDown (fun x => ltInt dk[a]! x) dk i2 j = j2) := by
                    show _ = _
                    rw [← HJ.out, down_stop (.inr (by show _ = false; rw [← HG3.out, ← HG3.out, hl2]))]
                  have hap2 : i2 < j2 := scans_apart (p := fun x => !ltInt dk[a]! x) (fun x => by simp) HU.out HD.out (by omega) hle2
                  clear hl2
                  go_region
                  all_goals go_wp2
                  go_roundw
                  case rel =>
                    refine ⟨i2 + 1, j2 - 1, swp dk i2 j2, by go_num, by congr 1; omega, by omega, by omega, by omega, ?_, by rw [← HO.out, partEqLoop_eq ltInt a i j dk, HU.out, HD.out, if_neg (by omega)]⟩
                    rw [HG3.out, HG3.out]
                    exact ((HK4.out.drewN _).drew).swap (by omega) (by omega)
                  case measure => simp [intOf]; omega
              · go_wp2
                go_quiet (first | (go_at_call 112; refine Calls.quiet_of_same (Less_any _ _ _)))
                go_wp2
                have HD : Hid (scanDown (fun x => ltInt dk[a]! x) dk i2 j = j2) := by
                  show _ = _
                  rw [← HJ.out, down_stop (.inl hle2)]
                go_ret
                have hfin : partEqLoop ltInt a i j dk = (i2, dk) := by rw [partEqLoop_eq ltInt a i j dk, HU.out, HD.out, if_pos (by omega)]
                refine ⟨?_, ?_⟩
                · rw [HE.out, ← HO.out, hfin]
                  first | rfl | simp
                · rw [HE.out, ← HO.out, hfin]
                  exact HK4.out.drewN _
        · go_wp2
          go_quiet (first | (go_at_call 112; refine Calls.quiet_of_same (Less_any _ _ _)))
          go_wp2
          have HU : Hid (scanUp (fun x => !ltInt dk[a]! x) dk j i = i2) := by
            show _ = _
            rw [← HI.out, up_stop (.inl hle)]
          have HK3 : Hid (At blk off w0 (wr.drewN nq) n dk) := HK2.out.drewN _
          go_loopw [10] (fun vj wr2 => ∃ (j2 : Nat), vj = .int .i64 j2 ∧ i2 ≤ j2 + 1 ∧ j2 ≤ j ∧ At blk off w0 wr2 n dk ∧ scanDown (fun x => ltInt dk[a]! x) dk i2 j2 = scanDown (fun x => ltInt dk[a]! x) dk i2 j) (fun vj _ => (intOf vj).toNat)
          case atStart => exact ⟨j, rfl, hi2j, Nat.le_refl _, HK3.out, rfl⟩
          case round =>
            obtain ⟨j2, rfl, hij2, hj2, hAt3, hJ⟩ := hrel
            obtain ⟨G3, hG3, hcw3, hfw3⟩ := hAt3.fam
            have HG3 : Hid (∀ t, G3 t = dk[t]!) := hG3
            have HJ : Hid (scanDown (fun x => ltInt dk[a]! x) dk i2 j2 = scanDown (fun x => ltInt dk[a]! x) dk i2 j) := hJ
            have HK4 : Hid (At blk off w0 wr n dk) := hAt3
            clear hJ hAt3 hG3
            by_cases hle2 : i2 ≤ j2
            · exfalso; omega
            · go_wp2
              go_quiet (first | (go_at_call 112; refine Calls.quiet_of_same (Less_any _ _ _)))
              go_wp2
              have HD : Hid (scanDown (fun x => ltInt dk[a]! x) dk i2 j = j2) := by
                show _ = _
                rw [← HJ.out, down_stop (.inl hle2)]
              go_ret
              have hfin : partEqLoop ltInt a i j dk = (i2, dk) := by rw [partEqLoop_eq ltInt a i j dk, HU.out, HD.out, if_pos (by omega)]
              refine ⟨?_, ?_⟩
              · rw [HE.out, ← HO.out, hfin]
                first | rfl | simp
              · rw [HE.out, ← HO.out, hfin]
                exact HK4.out.drewN _
  · go_region
    all_goals go_wp2
    go_loopw [9, 10] (fun vi vj wr => ∃ (i j : Nat) (dk : Array Int), vi = .int .i64 i ∧ vj = .int .i64 j ∧ a < i ∧ i ≤ j + 1 ∧ j < b ∧ At blk off w0 wr n dk ∧ partEqLoop ltInt a i j dk = partEqLoop ltInt a (a + 1) (b - 1) D) (fun vi vj _ => (intOf vj + 1 - intOf vi).toNat)
    case atStart => exact ⟨a + 1, b - 1, D, by go_num, by congr 1; omega, by omega, by omega, by omega, (by simp only [HG.out]; exact HSw.out), rfl⟩
    case round =>
      obtain ⟨i, j, dk, rfl, rfl, hai, hij, hjb, hAt, hO⟩ := hrel
      have HO : Hid (partEqLoop ltInt a i j dk = partEqLoop ltInt a (a + 1) (b - 1) D) := hO
      have HK : Hid (At blk off w0 wr n dk) := hAt
      clear hO hAt
      go_wp2
      go_loopw [9] (fun vi wr2 => ∃ (i2 : Nat), vi = .int .i64 i2 ∧ i ≤ i2 ∧ i2 ≤ j + 1 ∧ At blk off w0 wr2 n dk ∧ scanUp (fun x => !ltInt dk[a]! x) dk j i2 = scanUp (fun x => !ltInt dk[a]! x) dk j i) (fun vi _ => (j + 1 - (intOf vi).toNat))
      case atStart => exact ⟨i, rfl, Nat.le_refl _, hij, HK.out, rfl⟩
      case round =>
        obtain ⟨i2, rfl, hi2, hi2j, hAt2, hI⟩ := hrel
        obtain ⟨G2, hG2, hcw2, hfw2⟩ := hAt2.fam
        have HG2 : Hid (∀ t, G2 t = dk[t]!) := hG2
        have HI : Hid (scanUp (fun x => !ltInt dk[a]! x) dk j i2 = scanUp (fun x => !ltInt dk[a]! x) dk j i) := hI
        have HK2 : Hid (At blk off w0 wr n dk) := hAt2
        clear hI hAt2 hG2
        by_cases hle : i2 ≤ j
        · have hi2n : i2 < n := by omega
          go_wp2
          go_quiet (first | (go_at_call 112; refine Calls.quiet_of_same (Less_any _ _ _)))
          go_wp2
          · have hl : ltInt (G2 a) (G2 i2) = false := by first | assumption | (refine bnot_t ?_; assumption)
            go_roundw
            case rel => exact ⟨i2 + 1, by go_num, by omega, by omega, HK2.out.drewN _, by rw [← HI.out, ← up_go hle (by show (!_) = true; rw [← HG2.out, ← HG2.out, hl]; rfl)]⟩
            case measure => simp [intOf]; omega
          · have hl : ltInt (G2 a) (G2 i2) = true := by first | assumption | (refine bnot_f ?_; assumption) | (refine bnot_n ?_; assumption)
            have HU : Hid (scanUp (fun x => !ltInt dk[a]! x) dk j i = i2) := by
              show _ = _
              rw [← HI.out, up_stop (.inr (by show (!_) = false; rw [← HG2.out, ← HG2.out, hl]; rfl))]
            have HK3 : Hid (At blk off w0 (wr.drewN nq) n dk) := HK2.out.drewN _
            go_loopw [10] (fun vj wr2 => ∃ (j2 : Nat), vj = .int .i64 j2 ∧ i2 ≤ j2 + 1 ∧ j2 ≤ j ∧ At blk off w0 wr2 n dk ∧ scanDown (fun x => ltInt dk[a]! x) dk i2 j2 = scanDown (fun x => ltInt dk[a]! x) dk i2 j) (fun vj _ => (intOf vj).toNat)
            case atStart => exact ⟨j, rfl, hi2j, Nat.le_refl _, HK3.out, rfl⟩
            case round =>
              obtain ⟨j2, rfl, hij2, hj2, hAt3, hJ⟩ := hrel
              obtain ⟨G3, hG3, hcw3, hfw3⟩ := hAt3.fam
              have HG3 : Hid (∀ t, G3 t = dk[t]!) := hG3
              have HJ : Hid (scanDown (fun x => ltInt dk[a]! x) dk i2 j2 = scanDown (fun x => ltInt dk[a]! x) dk i2 j) := hJ
              have HK4 : Hid (At blk off w0 wr n dk) := hAt3
              clear hJ hAt3 hG3
              by_cases hle2 : i2 ≤ j2
              · have hj2n : j2 < n := by omega
                go_wp2
                go_quiet (first | (go_at_call 112; refine Calls.quiet_of_same (Less_any _ _ _)))
                go_wp2
                · have hl2 : ltInt (G3 a) (G3 j2) = true := by assumption
                  go_roundw
                  case rel => exact ⟨j2 - 1, by congr 1; omega, by omega, by omega, HK4.out.drewN _, by rw [← HJ.out, ← down_go (by omega) hle2 (by show _ = true; rw [← HG3.out, ← HG3.out, hl2])]⟩
                  case measure => simp [intOf]; omega
                · have hl2 : ltInt (G3 a) (G3 j2) = false := by assumption
                  have HD : Hid (scanDown (fun x => ltInt dk[a]! x) dk i2 j = j2) := by
                    show _ = _
                    rw [← HJ.out, down_stop (.inr (by show _ = false; rw [← HG3.out, ← HG3.out, hl2]))]
                  have hap2 : i2 < j2 := scans_apart (p := fun x => !ltInt dk[a]! x) (fun x => by simp) HU.out HD.out (by omega) hle2
                  clear hl2
                  go_region
                  all_goals go_wp2
                  go_roundw
                  case rel =>
                    refine ⟨i2 + 1, j2 - 1, swp dk i2 j2, by go_num, by congr 1; omega, by omega, by omega, by omega, ?_, by rw [← HO.out, partEqLoop_eq ltInt a i j dk, HU.out, HD.out, if_neg (by omega)]⟩
                    rw [HG3.out, HG3.out]
                    exact ((HK4.out.drewN _).drew).swap (by omega) (by omega)
                  case measure => simp [intOf]; omega
              · go_wp2
                go_quiet (first | (go_at_call 112; refine Calls.quiet_of_same (Less_any _ _ _)))
                go_wp2
                have HD : Hid (scanDown (fun x => ltInt dk[a]! x) dk i2 j = j2) := by
                  show _ = _
                  rw [← HJ.out, down_stop (.inl hle2)]
                go_ret
                have hfin : partEqLoop ltInt a i j dk = (i2, dk) := by rw [partEqLoop_eq ltInt a i j dk, HU.out, HD.out, if_pos (by omega)]
                refine ⟨?_, ?_⟩
                · rw [HE.out, ← HO.out, hfin]
                  first | rfl | simp
                · rw [HE.out, ← HO.out, hfin]
                  exact HK4.out.drewN _
        · go_wp2
          go_quiet (first | (go_at_call 112; refine Calls.quiet_of_same (Less_any _ _ _)))
          go_wp2
          have HU : Hid (scanUp (fun x => !ltInt dk[a]! x) dk j i = i2) := by
            show _ = _
            rw [← HI.out, up_stop (.inl hle)]
          have HK3 : Hid (At blk off w0 (wr.drewN nq) n dk) := HK2.out.drewN _
          go_loopw [10] (fun vj wr2 => ∃ (j2 : Nat), vj = .int .i64 j2 ∧ i2 ≤ j2 + 1 ∧ j2 ≤ j ∧ At blk off w0 wr2 n dk ∧ scanDown (fun x => ltInt dk[a]! x) dk i2 j2 = scanDown (fun x => ltInt dk[a]! x) dk i2 j) (fun vj _ => (intOf vj).toNat)
          case atStart => exact ⟨j, rfl, hi2j, Nat.le_refl _, HK3.out, rfl⟩
          case round =>
            obtain ⟨j2, rfl, hij2, hj2, hAt3, hJ⟩ := hrel
            obtain ⟨G3, hG3, hcw3, hfw3⟩ := hAt3.fam
            have HG3 : Hid (∀ t, G3 t = dk[t]!) := hG3
            have HJ : Hid (scanDown (fun x => ltInt dk[a]! x) dk i2 j2 = scanDown (fun x => ltInt dk[a]! x) dk i2 j) := hJ
            have HK4 : Hid (At blk off w0 wr n dk) := hAt3
            clear hJ hAt3 hG3
            by_cases hle2 : i2 ≤ j2
            · exfalso; omega
            · go_wp2
              go_quiet (first | (go_at_call 112; refine Calls.quiet_of_same (Less_any _ _ _)))
              go_wp2
              have HD : Hid (scanDown (fun x => ltInt dk[a]! x) dk i2 j = j2) := by
                show _ = _
                rw [← HJ.out, down_stop (.inl hle2)]
              go_ret
              have hfin : partEqLoop ltInt a i j dk = (i2, dk) := by rw [partEqLoop_eq ltInt a i j dk, HU.out, HD.out, if_pos (by omega)]
              refine ⟨?_, ?_⟩
              · rw [HE.out, ← HO.out, hfin]
                first | rfl | simp
              · rw [HE.out, ← HO.out, hfin]
                exact HK4.out.drewN _
end SrtI
end Go.Proofs.Ytpmmpdkeahmdiaa

/- The library's sort at int: the partition (written by srt/gen5.py). -/
namespace Go.Proofs.Ytpmmpdkeahmdiaa
open Go.RowKit Go.Sort
set_option maxRecDepth 100000
namespace SrtI

set_option maxHeartbeats 32000000 in
theorem partition_any (blk off cap a b pivot n : Nat) (d : Array Int) (w0 w : World) (hA : At blk off w0 w n d) (hap : a ≤ pivot) (hpb : pivot < b) (hb : b ≤ n) (hsz : n < 2305843009213693952) :
    Calls Try.prog 114 #[.slice (some ⟨blk, off, none⟩) n cap, .int .i64 a, .int .i64 b, .int .i64 pivot] w fun e w' =>
      ∃ ap : Bool, e = .returned (.tuple #[.int .i64 ((partition ltInt d a b pivot).1 : Nat), .bool ap]) ∧ At blk off w0 w' n (partition ltInt d a b pivot).2.2 := by
  obtain ⟨dk, hD⟩ : ∃ D, swp d a pivot = D := ⟨_, rfl⟩
  obtain ⟨R, hR⟩ : ∃ R, partLoop ltInt a (a + 1) (b - 1) dk = R := ⟨_, rfl⟩
  have HE1 : Hid ((partition ltInt d a b pivot).1 = R.1) := by show _ = _; rw [partition_fst, hD, hR]
  have HE2 : Hid ((partition ltInt d a b pivot).2.2 = swp R.2 R.1 a) := by show _ = _; rw [partition_arr, hD, hR]
  have han : a < n := by omega
  have hpn : pivot < n := by omega
  obtain ⟨j, hj⟩ : ∃ j, b - 1 = j := ⟨_, rfl⟩
  obtain ⟨i, hi⟩ : ∃ i, a + 1 = i := ⟨_, rfl⟩
  have HO : Hid (partLoop ltInt a i j dk = R) := by show _ = _; rw [← hi, ← hj]; exact hR
  have hbj : (b : Int) - 1 = (j : Int) := by omega
  have hai : a < i := by omega
  have hij : i ≤ j + 1 := by omega
  have hjb : j < b := by omega
  obtain ⟨G, hG, hcw, hfw⟩ := hA.fam
  have HG : Hid (∀ t, G t = d[t]!) := hG
  have HSw : Hid (At blk off w0 ((w.drew.setCell ⟨blk, off + a, none⟩ (enc d[pivot]!)).setCell ⟨blk, off + pivot, none⟩ (enc d[a]!)) n dk) := by rw [← hD]; exact (hA.drew).swap han hpn
  have HI0 : Hid (a + 1 = i) := hi
  clear hG hA hD hR hj hi
  go_enter Try.func114, Try.ntmps114
  go_wp2
  by_cases hapv : a = pivot
  · subst hapv
    go_region
    all_goals go_wp2
    try rw [hbj]
    go_loopw [10] (fun vi wr2 => ∃ (i2 : Nat), vi = .int .i64 i2 ∧ i ≤ i2 ∧ i2 ≤ j + 1 ∧ At blk off w0 wr2 n dk ∧ scanUp (fun x => ltInt x dk[a]!) dk j i2 = scanUp (fun x => ltInt x dk[a]!) dk j i) (fun vi _ => (j + 1 - (intOf vi).toNat))
    case atStart => exact ⟨i, (by rw [← HI0.out]; go_num), Nat.le_refl _, hij, (by simp only [HG.out]; exact HSw.out), rfl⟩
    case round =>
      obtain ⟨i2, rfl, hi2, hi2j, hAt2, hI⟩ := hrel
      obtain ⟨G2, hG2, hcw2, hfw2⟩ := hAt2.fam
      have HG2 : Hid (∀ t, G2 t = dk[t]!) := hG2
      have HI : Hid (scanUp (fun x => ltInt x dk[a]!) dk j i2 = scanUp (fun x => ltInt x dk[a]!) dk j i) := hI
      have HK2 : Hid (At blk off w0 wr n dk) := hAt2
      clear hI hAt2 hG2
      by_cases hle : i2 ≤ j
      · have hi2n : i2 < n := by omega
        go_wp2
        go_quiet (first | (go_at_call 112; refine Calls.quiet_of_same (Less_any _ _ _)))
        go_wp2
        · have hl : ltInt (G2 i2) (G2 a) = true := by assumption
          go_roundw
          case rel => exact ⟨i2 + 1, by go_num, by omega, by omega, HK2.out.drewN _, by rw [← HI.out, ← up_go hle (by show _ = true; rw [← HG2.out, ← HG2.out, hl])]⟩
          case measure => simp [intOf]; omega
        · have hl : ltInt (G2 i2) (G2 a) = false := by assumption
          have HU : Hid (scanUp (fun x => ltInt x dk[a]!) dk j i = i2) := by
            show _ = _
            rw [← HI.out, up_stop (.inr (by show _ = false; rw [← HG2.out, ← HG2.out, hl]))]
          have HK3 : Hid (At blk off w0 (wr.drewN nq) n dk) := HK2.out.drewN _
          go_loopw [11] (fun vj wr2 => ∃ (j2 : Nat), vj = .int .i64 j2 ∧ i2 ≤ j2 + 1 ∧ j2 ≤ j ∧ At blk off w0 wr2 n dk ∧ scanDown (fun x => !ltInt x dk[a]!) dk i2 j2 = scanDown (fun x => !ltInt x dk[a]!) dk i2 j) (fun vj _ => (intOf vj).toNat)
          case atStart => exact ⟨j, rfl, hi2j, Nat.le_refl _, HK3.out, rfl⟩
          case round =>
            obtain ⟨j2, rfl, hij2, hj2, hAt3, hJ⟩ := hrel
            obtain ⟨G3, hG3, hcw3, hfw3⟩ := hAt3.fam
            have HG3 : Hid (∀ t, G3 t = dk[t]!) := hG3
            have HJ : Hid (scanDown (fun x => !ltInt x dk[a]!) dk i2 j2 = scanDown (fun x => !ltInt x dk[a]!) dk i2 j) := hJ
            have HK4 : Hid (At blk off w0 wr n dk) := hAt3
            clear hJ hAt3 hG3
            by_cases hle2 : i2 ≤ j2
            · have hj2n : j2 < n := by omega
              go_wp2
              go_quiet (first | (go_at_call 112; refine Calls.quiet_of_same (Less_any _ _ _)))
              go_wp2
              · have hl2 : ltInt (G3 j2) (G3 a) = false := by first | assumption | (refine bnot_t ?_; assumption)
                go_roundw
                case rel => exact ⟨j2 - 1, by congr 1; omega, by omega, by omega, HK4.out.drewN _, by rw [← HJ.out, ← down_go (by omega) hle2 (by show (!_) = true; rw [← HG3.out, ← HG3.out, hl2]; rfl)]⟩
                case measure => simp [intOf]; omega
              · have hl2 : ltInt (G3 j2) (G3 a) = true := by first | assumption | (refine bnot_f ?_; assumption) | (refine bnot_n ?_; assumption)
                have HD : Hid (scanDown (fun x => !ltInt x dk[a]!) dk i2 j = j2) := by
                  show _ = _
                  rw [← HJ.out, down_stop (.inr (by show (!_) = false; rw [← HG3.out, ← HG3.out, hl2]; rfl))]
                have hap2 : i2 < j2 := scans_apart (p := fun x => ltInt x dk[a]!) (fun x => rfl) HU.out HD.out (by omega) hle2
                clear hl2
                go_region
                all_goals go_wp2
                have HN : Hid (partLoop ltInt a (i2 + 1) (j2 - 1) (swp dk i2 j2) = R) := by
                  show _ = _
                  rw [← HO.out, partLoop_eq ltInt a i j dk, HU.out, HD.out, if_neg (by omega)]
                have HK5 : Hid (At blk off w0 (((wr.drewN nq).drew.setCell ⟨blk, off + i2, none⟩ (enc dk[j2]!)).setCell ⟨blk, off + j2, none⟩ (enc dk[i2]!)) n (swp dk i2 j2)) := ((HK4.out.drewN _).drew).swap (by omega) (by omega)
                go_loopw [10, 11] (fun vi vj wr => ∃ (i j : Nat) (dk : Array Int), vi = .int .i64 i ∧ vj = .int .i64 j ∧ a < i ∧ i ≤ j + 1 ∧ j < b ∧ At blk off w0 wr n dk ∧ partLoop ltInt a i j dk = R) (fun vi vj _ => (intOf vj + 1 - intOf vi).toNat)
                case atStart => exact ⟨i2 + 1, j2 - 1, swp dk i2 j2, by go_num, by congr 1; omega, by omega, by omega, by omega, (by simp only [HG3.out]; exact HK5.out), HN.out⟩
                case round =>
                  clear HN HK5 HK4 hcw3 hfw3 HG3 HJ HD HU HK3 HK2 HI HG2 hcw2 hfw2 HO
                  clear hap2 hle2 hj2 hij2 hi2 hi2j
                  obtain ⟨i, j, dk, rfl, rfl, hai, hij, hjb, hAt, hO⟩ := hrel
                  have HO : Hid (partLoop ltInt a i j dk = R) := hO
                  have HK : Hid (At blk off w0 wr n dk) := hAt
                  clear hO hAt
                  go_wp2
                  go_loopw [10] (fun vi wr2 => ∃ (i2 : Nat), vi = .int .i64 i2 ∧ i ≤ i2 ∧ i2 ≤ j + 1 ∧ At blk off w0 wr2 n dk ∧ scanUp (fun x => ltInt x dk[a]!) dk j i2 = scanUp (fun x => ltInt x dk[a]!) dk j i) (fun vi _ => (j + 1 - (intOf vi).toNat))
                  case atStart => exact ⟨i, rfl, Nat.le_refl _, hij, HK.out, rfl⟩
                  case round =>
                    obtain ⟨i2, rfl, hi2, hi2j, hAt2, hI⟩ := hrel
                    obtain ⟨G2, hG2, hcw2, hfw2⟩ := hAt2.fam
                    have HG2 : Hid (∀ t, G2 t = dk[t]!) := hG2
                    have HI : Hid (scanUp (fun x => ltInt x dk[a]!) dk j i2 = scanUp (fun x => ltInt x dk[a]!) dk j i) := hI
                    have HK2 : Hid (At blk off w0 wr n dk) := hAt2
                    clear hI hAt2 hG2
                    by_cases hle : i2 ≤ j
                    · have hi2n : i2 < n := by omega
                      go_wp2
                      go_quiet (first | (go_at_call 112; refine Calls.quiet_of_same (Less_any _ _ _)))
                      go_wp2
                      · have hl : ltInt (G2 i2) (G2 a) = true := by assumption
                        go_roundw
                        case rel => exact ⟨i2 + 1, by go_num, by omega, by omega, HK2.out.drewN _, by rw [← HI.out, ← up_go hle (by show _ = true; rw [← HG2.out, ← HG2.out, hl])]⟩
                        case measure => simp [intOf]; omega
                      · have hl : ltInt (G2 i2) (G2 a) = false := by assumption
                        have HU : Hid (scanUp (fun x => ltInt x dk[a]!) dk j i = i2) := by
                          show _ = _
                          rw [← HI.out, up_stop (.inr (by show _ = false; rw [← HG2.out, ← HG2.out, hl]))]
                        have HK3 : Hid (At blk off w0 (wr.drewN nq) n dk) := HK2.out.drewN _
                        go_loopw [11] (fun vj wr2 => ∃ (j2 : Nat), vj = .int .i64 j2 ∧ i2 ≤ j2 + 1 ∧ j2 ≤ j ∧ At blk off w0 wr2 n dk ∧ scanDown (fun x => !ltInt x dk[a]!) dk i2 j2 = scanDown (fun x => !ltInt x dk[a]!) dk i2 j) (fun vj _ => (intOf vj).toNat)
                        case atStart => exact ⟨j, rfl, hi2j, Nat.le_refl _, HK3.out, rfl⟩
                        case round =>
                          obtain ⟨j2, rfl, hij2, hj2, hAt3, hJ⟩ := hrel
                          obtain ⟨G3, hG3, hcw3, hfw3⟩ := hAt3.fam
                          have HG3 : Hid (∀ t, G3 t = dk[t]!) := hG3
                          have HJ : Hid (scanDown (fun x => !ltInt x dk[a]!) dk i2 j2 = scanDown (fun x => !ltInt x dk[a]!) dk i2 j) := hJ
                          have HK4 : Hid (At blk off w0 wr n dk) := hAt3
                          clear hJ hAt3 hG3
                          by_cases hle2 : i2 ≤ j2
                          · have hj2n : j2 < n := by omega
                            go_wp2
                            go_quiet (first | (go_at_call 112; refine Calls.quiet_of_same (Less_any _ _ _)))
                            go_wp2
                            · have hl2 : ltInt (G3 j2) (G3 a) = false := by first | assumption | (refine bnot_t ?_; assumption)
                              go_roundw
                              case rel => exact ⟨j2 - 1, by congr 1; omega, by omega, by omega, HK4.out.drewN _, by rw [← HJ.out, ← down_go (by omega) hle2 (by show (!_) = true; rw [← HG3.out, ← HG3.out, hl2]; rfl)]⟩
                              case measure => simp [intOf]; omega
                            · have hl2 : ltInt (G3 j2) (G3 a) = true := by first | assumption | (refine bnot_f ?_; assumption) | (refine bnot_n ?_; assumption)
                              have HD : Hid (scanDown (fun x => !ltInt x dk[a]!) dk i2 j = j2) := by
                                show _ = _
                                rw [← HJ.out, down_stop (.inr (by show (!_) = false; rw [← HG3.out, ← HG3.out, hl2]; rfl))]
                              have hap2 : i2 < j2 := scans_apart (p := fun x => ltInt x dk[a]!) (fun x => rfl) HU.out HD.out (by omega) hle2
                              clear hl2
                              go_region
                              all_goals go_wp2
                              have HN : Hid (partLoop ltInt a (i2 + 1) (j2 - 1) (swp dk i2 j2) = R) := by
                                show _ = _
                                rw [← HO.out, partLoop_eq ltInt a i j dk, HU.out, HD.out, if_neg (by omega)]
                              have HK5 : Hid (At blk off w0 (((wr.drewN nq).drew.setCell ⟨blk, off + i2, none⟩ (enc dk[j2]!)).setCell ⟨blk, off + j2, none⟩ (enc dk[i2]!)) n (swp dk i2 j2)) := ((HK4.out.drewN _).drew).swap (by omega) (by omega)
                              go_roundw
                              case rel => exact ⟨i2 + 1, j2 - 1, swp dk i2 j2, by go_num, by congr 1; omega, by omega, by omega, by omega, (by simp only [HG3.out]; exact HK5.out), HN.out⟩
                              case measure => simp [intOf]; omega
                          · go_wp2
                            go_quiet (first | (go_at_call 112; refine Calls.quiet_of_same (Less_any _ _ _)))
                            go_wp2
                            have HD : Hid (scanDown (fun x => !ltInt x dk[a]!) dk i2 j = j2) := by
                              show _ = _
                              rw [← HJ.out, down_stop (.inl hle2)]
                            have HF : Hid (R = (j2, dk)) := by
                              show _ = _
                              rw [← HO.out, partLoop_eq ltInt a i j dk, HU.out, HD.out, if_pos (by omega)]
                            have haj2 : a ≤ j2 := by omega
                            have hj2n : j2 < n := by omega
                            have HK5 : Hid (At blk off w0 (((wr.drewN nq).drew.setCell ⟨blk, off + j2, none⟩ (enc dk[a]!)).setCell ⟨blk, off + a, none⟩ (enc dk[j2]!)) n (swp dk j2 a)) := ((HK4.out.drewN _).drew).swap (by omega) (by omega)
                            by_cases hja : j2 = a
                            · subst hja
                              try (exfalso; omega)
                              all_goals
                                go_region
                                all_goals go_wp2
                                go_ret2
                                refine ⟨false, ?_, ?_⟩
                                · rw [HE1.out, HF.out]
                                  first | rfl | simp
                                · rw [HE2.out, HF.out]
                                  simp only [HG3.out]
                                  exact HK5.out
                            · go_region
                              all_goals go_wp2
                              go_ret2
                              refine ⟨false, ?_, ?_⟩
                              · rw [HE1.out, HF.out]
                                first | rfl | simp
                              · rw [HE2.out, HF.out]
                                simp only [HG3.out]
                                exact HK5.out
                    · go_wp2
                      go_quiet (first | (go_at_call 112; refine Calls.quiet_of_same (Less_any _ _ _)))
                      go_wp2
                      have HU : Hid (scanUp (fun x => ltInt x dk[a]!) dk j i = i2) := by
                        show _ = _
                        rw [← HI.out, up_stop (.inl hle)]
                      have HK3 : Hid (At blk off w0 (wr.drewN nq) n dk) := HK2.out.drewN _
                      go_loopw [11] (fun vj wr2 => ∃ (j2 : Nat), vj = .int .i64 j2 ∧ i2 ≤ j2 + 1 ∧ j2 ≤ j ∧ At blk off w0 wr2 n dk ∧ scanDown (fun x => !ltInt x dk[a]!) dk i2 j2 = scanDown (fun x => !ltInt x dk[a]!) dk i2 j) (fun vj _ => (intOf vj).toNat)
                      case atStart => exact ⟨j, rfl, hi2j, Nat.le_refl _, HK3.out, rfl⟩
                      case round =>
                        obtain ⟨j2, rfl, hij2, hj2, hAt3, hJ⟩ := hrel
                        obtain ⟨G3, hG3, hcw3, hfw3⟩ := hAt3.fam
                        have HG3 : Hid (∀ t, G3 t = dk[t]!) := hG3
                        have HJ : Hid (scanDown (fun x => !ltInt x dk[a]!) dk i2 j2 = scanDown (fun x => !ltInt x dk[a]!) dk i2 j) := hJ
                        have HK4 : Hid (At blk off w0 wr n dk) := hAt3
                        clear hJ hAt3 hG3
                        by_cases hle2 : i2 ≤ j2
                        · exfalso; omega
                        · go_wp2
                          go_quiet (first | (go_at_call 112; refine Calls.quiet_of_same (Less_any _ _ _)))
                          go_wp2
                          have HD : Hid (scanDown (fun x => !ltInt x dk[a]!) dk i2 j = j2) := by
                            show _ = _
                            rw [← HJ.out, down_stop (.inl hle2)]
                          have HF : Hid (R = (j2, dk)) := by
                            show _ = _
                            rw [← HO.out, partLoop_eq ltInt a i j dk, HU.out, HD.out, if_pos (by omega)]
                          have haj2 : a ≤ j2 := by omega
                          have hj2n : j2 < n := by omega
                          have HK5 : Hid (At blk off w0 (((wr.drewN nq).drew.setCell ⟨blk, off + j2, none⟩ (enc dk[a]!)).setCell ⟨blk, off + a, none⟩ (enc dk[j2]!)) n (swp dk j2 a)) := ((HK4.out.drewN _).drew).swap (by omega) (by omega)
                          by_cases hja : j2 = a
                          · subst hja
                            try (exfalso; omega)
                            all_goals
                              go_region
                              all_goals go_wp2
                              go_ret2
                              refine ⟨false, ?_, ?_⟩
                              · rw [HE1.out, HF.out]
                                first | rfl | simp
                              · rw [HE2.out, HF.out]
                                simp only [HG3.out]
                                exact HK5.out
                          · go_region
                            all_goals go_wp2
                            go_ret2
                            refine ⟨false, ?_, ?_⟩
                            · rw [HE1.out, HF.out]
                              first | rfl | simp
                            · rw [HE2.out, HF.out]
                              simp only [HG3.out]
                              exact HK5.out
            · go_wp2
              go_quiet (first | (go_at_call 112; refine Calls.quiet_of_same (Less_any _ _ _)))
              go_wp2
              have HD : Hid (scanDown (fun x => !ltInt x dk[a]!) dk i2 j = j2) := by
                show _ = _
                rw [← HJ.out, down_stop (.inl hle2)]
              have HF : Hid (R = (j2, dk)) := by
                show _ = _
                rw [← HO.out, partLoop_eq ltInt a i j dk, HU.out, HD.out, if_pos (by omega)]
              have haj2 : a ≤ j2 := by omega
              have hj2n : j2 < n := by omega
              have HK5 : Hid (At blk off w0 (((wr.drewN nq).drew.setCell ⟨blk, off + j2, none⟩ (enc dk[a]!)).setCell ⟨blk, off + a, none⟩ (enc dk[j2]!)) n (swp dk j2 a)) := ((HK4.out.drewN _).drew).swap (by omega) (by omega)
              by_cases hja : j2 = a
              · subst hja
                try (exfalso; omega)
                all_goals
                  go_region
                  all_goals go_wp2
                  go_ret2
                  refine ⟨true, ?_, ?_⟩
                  · rw [HE1.out, HF.out]
                    first | rfl | simp
                  · rw [HE2.out, HF.out]
                    simp only [HG3.out]
                    exact HK5.out
              · go_region
                all_goals go_wp2
                go_ret2
                refine ⟨true, ?_, ?_⟩
                · rw [HE1.out, HF.out]
                  first | rfl | simp
                · rw [HE2.out, HF.out]
                  simp only [HG3.out]
                  exact HK5.out
      · go_wp2
        go_quiet (first | (go_at_call 112; refine Calls.quiet_of_same (Less_any _ _ _)))
        go_wp2
        have HU : Hid (scanUp (fun x => ltInt x dk[a]!) dk j i = i2) := by
          show _ = _
          rw [← HI.out, up_stop (.inl hle)]
        have HK3 : Hid (At blk off w0 (wr.drewN nq) n dk) := HK2.out.drewN _
        go_loopw [11] (fun vj wr2 => ∃ (j2 : Nat), vj = .int .i64 j2 ∧ i2 ≤ j2 + 1 ∧ j2 ≤ j ∧ At blk off w0 wr2 n dk ∧ scanDown (fun x => !ltInt x dk[a]!) dk i2 j2 = scanDown (fun x => !ltInt x dk[a]!) dk i2 j) (fun vj _ => (intOf vj).toNat)
        case atStart => exact ⟨j, rfl, hi2j, Nat.le_refl _, HK3.out, rfl⟩
        case round =>
          obtain ⟨j2, rfl, hij2, hj2, hAt3, hJ⟩ := hrel
          obtain ⟨G3, hG3, hcw3, hfw3⟩ := hAt3.fam
          have HG3 : Hid (∀ t, G3 t = dk[t]!) := hG3
          have HJ : Hid (scanDown (fun x => !ltInt x dk[a]!) dk i2 j2 = scanDown (fun x => !ltInt x dk[a]!) dk i2 j) := hJ
          have HK4 : Hid (At blk off w0 wr n dk) := hAt3
          clear hJ hAt3 hG3
          by_cases hle2 : i2 ≤ j2
          · exfalso; omega
          · go_wp2
            go_quiet (first | (go_at_call 112; refine Calls.quiet_of_same (Less_any _ _ _)))
            go_wp2
            have HD : Hid (scanDown (fun x => !ltInt x dk[a]!) dk i2 j = j2) := by
              show _ = _
              rw [← HJ.out, down_stop (.inl hle2)]
            have HF : Hid (R = (j2, dk)) := by
              show _ = _
              rw [← HO.out, partLoop_eq ltInt a i j dk, HU.out, HD.out, if_pos (by omega)]
            have haj2 : a ≤ j2 := by omega
            have hj2n : j2 < n := by omega
            have HK5 : Hid (At blk off w0 (((wr.drewN nq).drew.setCell ⟨blk, off + j2, none⟩ (enc dk[a]!)).setCell ⟨blk, off + a, none⟩ (enc dk[j2]!)) n (swp dk j2 a)) := ((HK4.out.drewN _).drew).swap (by omega) (by omega)
            by_cases hja : j2 = a
            · subst hja
              try (exfalso; omega)
              all_goals
                go_region
                all_goals go_wp2
                go_ret2
                refine ⟨true, ?_, ?_⟩
                · rw [HE1.out, HF.out]
                  first | rfl | simp
                · rw [HE2.out, HF.out]
                  simp only [HG3.out]
                  exact HK5.out
            · go_region
              all_goals go_wp2
              go_ret2
              refine ⟨true, ?_, ?_⟩
              · rw [HE1.out, HF.out]
                first | rfl | simp
              · rw [HE2.out, HF.out]
                simp only [HG3.out]
                exact HK5.out
  · go_region
    all_goals go_wp2
    try rw [hbj]
    go_loopw [10] (fun vi wr2 => ∃ (i2 : Nat), vi = .int .i64 i2 ∧ i ≤ i2 ∧ i2 ≤ j + 1 ∧ At blk off w0 wr2 n dk ∧ scanUp (fun x => ltInt x dk[a]!) dk j i2 = scanUp (fun x => ltInt x dk[a]!) dk j i) (fun vi _ => (j + 1 - (intOf vi).toNat))
    case atStart => exact ⟨i, (by rw [← HI0.out]; go_num), Nat.le_refl _, hij, (by simp only [HG.out]; exact HSw.out), rfl⟩
    case round =>
      obtain ⟨i2, rfl, hi2, hi2j, hAt2, hI⟩ := hrel
      obtain ⟨G2, hG2, hcw2, hfw2⟩ := hAt2.fam
      have HG2 : Hid (∀ t, G2 t = dk[t]!) := hG2
      have HI : Hid (scanUp (fun x => ltInt x dk[a]!) dk j i2 = scanUp (fun x => ltInt x dk[a]!) dk j i) := hI
      have HK2 : Hid (At blk off w0 wr n dk) := hAt2
      clear hI hAt2 hG2
      by_cases hle : i2 ≤ j
      · have hi2n : i2 < n := by omega
        go_wp2
        go_quiet (first | (go_at_call 112; refine Calls.quiet_of_same (Less_any _ _ _)))
        go_wp2
        · have hl : ltInt (G2 i2) (G2 a) = true := by assumption
          go_roundw
          case rel => exact ⟨i2 + 1, by go_num, by omega, by omega, HK2.out.drewN _, by rw [← HI.out, ← up_go hle (by show _ = true; rw [← HG2.out, ← HG2.out, hl])]⟩
          case measure => simp [intOf]; omega
        · have hl : ltInt (G2 i2) (G2 a) = false := by assumption
          have HU : Hid (scanUp (fun x => ltInt x dk[a]!) dk j i = i2) := by
            show _ = _
            rw [← HI.out, up_stop (.inr (by show _ = false; rw [← HG2.out, ← HG2.out, hl]))]
          have HK3 : Hid (At blk off w0 (wr.drewN nq) n dk) := HK2.out.drewN _
          go_loopw [11] (fun vj wr2 => ∃ (j2 : Nat), vj = .int .i64 j2 ∧ i2 ≤ j2 + 1 ∧ j2 ≤ j ∧ At blk off w0 wr2 n dk ∧ scanDown (fun x => !ltInt x dk[a]!) dk i2 j2 = scanDown (fun x => !ltInt x dk[a]!) dk i2 j) (fun vj _ => (intOf vj).toNat)
          case atStart => exact ⟨j, rfl, hi2j, Nat.le_refl _, HK3.out, rfl⟩
          case round =>
            obtain ⟨j2, rfl, hij2, hj2, hAt3, hJ⟩ := hrel
            obtain ⟨G3, hG3, hcw3, hfw3⟩ := hAt3.fam
            have HG3 : Hid (∀ t, G3 t = dk[t]!) := hG3
            have HJ : Hid (scanDown (fun x => !ltInt x dk[a]!) dk i2 j2 = scanDown (fun x => !ltInt x dk[a]!) dk i2 j) := hJ
            have HK4 : Hid (At blk off w0 wr n dk) := hAt3
            clear hJ hAt3 hG3
            by_cases hle2 : i2 ≤ j2
            · have hj2n : j2 < n := by omega
              go_wp2
              go_quiet (first | (go_at_call 112; refine Calls.quiet_of_same (Less_any _ _ _)))
              go_wp2
              · have hl2 : ltInt (G3 j2) (G3 a) = false := by first | assumption | (refine bnot_t ?_; assumption)
                go_roundw
                case rel => exact ⟨j2 - 1, by congr 1; omega, by omega, by omega, HK4.out.drewN _, by rw [← HJ.out, ← down_go (by omega) hle2 (by show (!_) = true; rw [← HG3.out, ← HG3.out, hl2]; rfl)]⟩
                case measure => simp [intOf]; omega
              · have hl2 : ltInt (G3 j2) (G3 a) = true := by first | assumption | (refine bnot_f ?_; assumption) | (refine bnot_n ?_; assumption)
                have HD : Hid (scanDown (fun x => !ltInt x dk[a]!) dk i2 j = j2) := by
                  show _ = _
                  rw [← HJ.out, down_stop (.inr (by show (!_) = false; rw [← HG3.out, ← HG3.out, hl2]; rfl))]
                have hap2 : i2 < j2 := scans_apart (p := fun x => ltInt x dk[a]!) (fun x => rfl) HU.out HD.out (by omega) hle2
                clear hl2
                go_region
                all_goals go_wp2
                have HN : Hid (partLoop ltInt a (i2 + 1) (j2 - 1) (swp dk i2 j2) = R) := by
                  show _ = _
                  rw [← HO.out, partLoop_eq ltInt a i j dk, HU.out, HD.out, if_neg (by omega)]
                have HK5 : Hid (At blk off w0 (((wr.drewN nq).drew.setCell ⟨blk, off + i2, none⟩ (enc dk[j2]!)).setCell ⟨blk, off + j2, none⟩ (enc dk[i2]!)) n (swp dk i2 j2)) := ((HK4.out.drewN _).drew).swap (by omega) (by omega)
                go_loopw [10, 11] (fun vi vj wr => ∃ (i j : Nat) (dk : Array Int), vi = .int .i64 i ∧ vj = .int .i64 j ∧ a < i ∧ i ≤ j + 1 ∧ j < b ∧ At blk off w0 wr n dk ∧ partLoop ltInt a i j dk = R) (fun vi vj _ => (intOf vj + 1 - intOf vi).toNat)
                case atStart => exact ⟨i2 + 1, j2 - 1, swp dk i2 j2, by go_num, by congr 1; omega, by omega, by omega, by omega, (by simp only [HG3.out]; exact HK5.out), HN.out⟩
                case round =>
                  clear HN HK5 HK4 hcw3 hfw3 HG3 HJ HD HU HK3 HK2 HI HG2 hcw2 hfw2 HO
                  clear hap2 hle2 hj2 hij2 hi2 hi2j
                  obtain ⟨i, j, dk, rfl, rfl, hai, hij, hjb, hAt, hO⟩ := hrel
                  have HO : Hid (partLoop ltInt a i j dk = R) := hO
                  have HK : Hid (At blk off w0 wr n dk) := hAt
                  clear hO hAt
                  go_wp2
                  go_loopw [10] (fun vi wr2 => ∃ (i2 : Nat), vi = .int .i64 i2 ∧ i ≤ i2 ∧ i2 ≤ j + 1 ∧ At blk off w0 wr2 n dk ∧ scanUp (fun x => ltInt x dk[a]!) dk j i2 = scanUp (fun x => ltInt x dk[a]!) dk j i) (fun vi _ => (j + 1 - (intOf vi).toNat))
                  case atStart => exact ⟨i, rfl, Nat.le_refl _, hij, HK.out, rfl⟩
                  case round =>
                    obtain ⟨i2, rfl, hi2, hi2j, hAt2, hI⟩ := hrel
                    obtain ⟨G2, hG2, hcw2, hfw2⟩ := hAt2.fam
                    have HG2 : Hid (∀ t, G2 t = dk[t]!) := hG2
                    have HI : Hid (scanUp (fun x => ltInt x dk[a]!) dk j i2 = scanUp (fun x => ltInt x dk[a]!) dk j i) := hI
                    have HK2 : Hid (At blk off w0 wr n dk) := hAt2
                    clear hI hAt2 hG2
                    by_cases hle : i2 ≤ j
                    · have hi2n : i2 < n := by omega
                      go_wp2
                      go_quiet (first | (go_at_call 112; refine Calls.quiet_of_same (Less_any _ _ _)))
                      go_wp2
                      · have hl : ltInt (G2 i2) (G2 a) = true := by assumption
                        go_roundw
                        case rel => exact ⟨i2 + 1, by go_num, by omega, by omega, HK2.out.drewN _, by rw [← HI.out, ← up_go hle (by show _ = true; rw [← HG2.out, ← HG2.out, hl])]⟩
                        case measure => simp [intOf]; omega
                      · have hl : ltInt (G2 i2) (G2 a) = false := by assumption
                        have HU : Hid (scanUp (fun x => ltInt x dk[a]!) dk j i = i2) := by
                          show _ = _
                          rw [← HI.out, up_stop (.inr (by show _ = false; rw [← HG2.out, ← HG2.out, hl]))]
                        have HK3 : Hid (At blk off w0 (wr.drewN nq) n dk) := HK2.out.drewN _
                        go_loopw [11] (fun vj wr2 => ∃ (j2 : Nat), vj = .int .i64 j2 ∧ i2 ≤ j2 + 1 ∧ j2 ≤ j ∧ At blk off w0 wr2 n dk ∧ scanDown (fun x => !ltInt x dk[a]!) dk i2 j2 = scanDown (fun x => !ltInt x dk[a]!) dk i2 j) (fun vj _ => (intOf vj).toNat)
                        case atStart => exact ⟨j, rfl, hi2j, Nat.le_refl _, HK3.out, rfl⟩
                        case round =>
                          obtain ⟨j2, rfl, hij2, hj2, hAt3, hJ⟩ := hrel
                          obtain ⟨G3, hG3, hcw3, hfw3⟩ := hAt3.fam
                          have HG3 : Hid (∀ t, G3 t = dk[t]!) := hG3
                          have HJ : Hid (scanDown (fun x => !ltInt x dk[a]!) dk i2 j2 = scanDown (fun x => !ltInt x dk[a]!) dk i2 j) := hJ
                          have HK4 : Hid (At blk off w0 wr n dk) := hAt3
                          clear hJ hAt3 hG3
                          by_cases hle2 : i2 ≤ j2
                          · have hj2n : j2 < n := by omega
                            go_wp2
                            go_quiet (first | (go_at_call 112; refine Calls.quiet_of_same (Less_any _ _ _)))
                            go_wp2
                            · have hl2 : ltInt (G3 j2) (G3 a) = false := by first | assumption | (refine bnot_t ?_; assumption)
                              go_roundw
                              case rel => exact ⟨j2 - 1, by congr 1; omega, by omega, by omega, HK4.out.drewN _, by rw [← HJ.out, ← down_go (by omega) hle2 (by show (!_) = true; rw [← HG3.out, ← HG3.out, hl2]; rfl)]⟩
                              case measure => simp [intOf]; omega
                            · have hl2 : ltInt (G3 j2) (G3 a) = true := by first | assumption | (refine bnot_f ?_; assumption) | (refine bnot_n ?_; assumption)
                              have HD : Hid (scanDown (fun x => !ltInt x dk[a]!) dk i2 j = j2) := by
                                show _ = _
                                rw [← HJ.out, down_stop (.inr (by show (!_) = false; rw [← HG3.out, ← HG3.out, hl2]; rfl))]
                              have hap2 : i2 < j2 := scans_apart (p := fun x => ltInt x dk[a]!) (fun x => rfl) HU.out HD.out (by omega) hle2
                              clear hl2
                              go_region
                              all_goals go_wp2
                              have HN : Hid (partLoop ltInt a (i2 + 1) (j2 - 1) (swp dk i2 j2) = R) := by
                                show _ = _
                                rw [← HO.out, partLoop_eq ltInt a i j dk, HU.out, HD.out, if_neg (by omega)]
                              have HK5 : Hid (At blk off w0 (((wr.drewN nq).drew.setCell ⟨blk, off + i2, none⟩ (enc dk[j2]!)).setCell ⟨blk, off + j2, none⟩ (enc dk[i2]!)) n (swp dk i2 j2)) := ((HK4.out.drewN _).drew).swap (by omega) (by omega)
                              go_roundw
                              case rel => exact ⟨i2 + 1, j2 - 1, swp dk i2 j2, by go_num, by congr 1; omega, by omega, by omega, by omega, (by simp only [HG3.out]; exact HK5.out), HN.out⟩
                              case measure => simp [intOf]; omega
                          · go_wp2
                            go_quiet (first | (go_at_call 112; refine Calls.quiet_of_same (Less_any _ _ _)))
                            go_wp2
                            have HD : Hid (scanDown (fun x => !ltInt x dk[a]!) dk i2 j = j2) := by
                              show _ = _
                              rw [← HJ.out, down_stop (.inl hle2)]
                            have HF : Hid (R = (j2, dk)) := by
                              show _ = _
                              rw [← HO.out, partLoop_eq ltInt a i j dk, HU.out, HD.out, if_pos (by omega)]
                            have haj2 : a ≤ j2 := by omega
                            have hj2n : j2 < n := by omega
                            have HK5 : Hid (At blk off w0 (((wr.drewN nq).drew.setCell ⟨blk, off + j2, none⟩ (enc dk[a]!)).setCell ⟨blk, off + a, none⟩ (enc dk[j2]!)) n (swp dk j2 a)) := ((HK4.out.drewN _).drew).swap (by omega) (by omega)
                            by_cases hja : j2 = a
                            · subst hja
                              try (exfalso; omega)
                              all_goals
                                go_region
                                all_goals go_wp2
                                go_ret2
                                refine ⟨false, ?_, ?_⟩
                                · rw [HE1.out, HF.out]
                                  first | rfl | simp
                                · rw [HE2.out, HF.out]
                                  simp only [HG3.out]
                                  exact HK5.out
                            · go_region
                              all_goals go_wp2
                              go_ret2
                              refine ⟨false, ?_, ?_⟩
                              · rw [HE1.out, HF.out]
                                first | rfl | simp
                              · rw [HE2.out, HF.out]
                                simp only [HG3.out]
                                exact HK5.out
                    · go_wp2
                      go_quiet (first | (go_at_call 112; refine Calls.quiet_of_same (Less_any _ _ _)))
                      go_wp2
                      have HU : Hid (scanUp (fun x => ltInt x dk[a]!) dk j i = i2) := by
                        show _ = _
                        rw [← HI.out, up_stop (.inl hle)]
                      have HK3 : Hid (At blk off w0 (wr.drewN nq) n dk) := HK2.out.drewN _
                      go_loopw [11] (fun vj wr2 => ∃ (j2 : Nat), vj = .int .i64 j2 ∧ i2 ≤ j2 + 1 ∧ j2 ≤ j ∧ At blk off w0 wr2 n dk ∧ scanDown (fun x => !ltInt x dk[a]!) dk i2 j2 = scanDown (fun x => !ltInt x dk[a]!) dk i2 j) (fun vj _ => (intOf vj).toNat)
                      case atStart => exact ⟨j, rfl, hi2j, Nat.le_refl _, HK3.out, rfl⟩
                      case round =>
                        obtain ⟨j2, rfl, hij2, hj2, hAt3, hJ⟩ := hrel
                        obtain ⟨G3, hG3, hcw3, hfw3⟩ := hAt3.fam
                        have HG3 : Hid (∀ t, G3 t = dk[t]!) := hG3
                        have HJ : Hid (scanDown (fun x => !ltInt x dk[a]!) dk i2 j2 = scanDown (fun x => !ltInt x dk[a]!) dk i2 j) := hJ
                        have HK4 : Hid (At blk off w0 wr n dk) := hAt3
                        clear hJ hAt3 hG3
                        by_cases hle2 : i2 ≤ j2
                        · exfalso; omega
                        · go_wp2
                          go_quiet (first | (go_at_call 112; refine Calls.quiet_of_same (Less_any _ _ _)))
                          go_wp2
                          have HD : Hid (scanDown (fun x => !ltInt x dk[a]!) dk i2 j = j2) := by
                            show _ = _
                            rw [← HJ.out, down_stop (.inl hle2)]
                          have HF : Hid (R = (j2, dk)) := by
                            show _ = _
                            rw [← HO.out, partLoop_eq ltInt a i j dk, HU.out, HD.out, if_pos (by omega)]
                          have haj2 : a ≤ j2 := by omega
                          have hj2n : j2 < n := by omega
                          have HK5 : Hid (At blk off w0 (((wr.drewN nq).drew.setCell ⟨blk, off + j2, none⟩ (enc dk[a]!)).setCell ⟨blk, off + a, none⟩ (enc dk[j2]!)) n (swp dk j2 a)) := ((HK4.out.drewN _).drew).swap (by omega) (by omega)
                          by_cases hja : j2 = a
                          · subst hja
                            try (exfalso; omega)
                            all_goals
                              go_region
                              all_goals go_wp2
                              go_ret2
                              refine ⟨false, ?_, ?_⟩
                              · rw [HE1.out, HF.out]
                                first | rfl | simp
                              · rw [HE2.out, HF.out]
                                simp only [HG3.out]
                                exact HK5.out
                          · go_region
                            all_goals go_wp2
                            go_ret2
                            refine ⟨false, ?_, ?_⟩
                            · rw [HE1.out, HF.out]
                              first | rfl | simp
                            · rw [HE2.out, HF.out]
                              simp only [HG3.out]
                              exact HK5.out
            · go_wp2
              go_quiet (first | (go_at_call 112; refine Calls.quiet_of_same (Less_any _ _ _)))
              go_wp2
              have HD : Hid (scanDown (fun x => !ltInt x dk[a]!) dk i2 j = j2) := by
                show _ = _
                rw [← HJ.out, down_stop (.inl hle2)]
              have HF : Hid (R = (j2, dk)) := by
                show _ = _
                rw [← HO.out, partLoop_eq ltInt a i j dk, HU.out, HD.out, if_pos (by omega)]
              have haj2 : a ≤ j2 := by omega
              have hj2n : j2 < n := by omega
              have HK5 : Hid (At blk off w0 (((wr.drewN nq).drew.setCell ⟨blk, off + j2, none⟩ (enc dk[a]!)).setCell ⟨blk, off + a, none⟩ (enc dk[j2]!)) n (swp dk j2 a)) := ((HK4.out.drewN _).drew).swap (by omega) (by omega)
              by_cases hja : j2 = a
              · subst hja
                try (exfalso; omega)
                all_goals
                  go_region
                  all_goals go_wp2
                  go_ret2
                  refine ⟨true, ?_, ?_⟩
                  · rw [HE1.out, HF.out]
                    first | rfl | simp
                  · rw [HE2.out, HF.out]
                    simp only [HG3.out]
                    exact HK5.out
              · go_region
                all_goals go_wp2
                go_ret2
                refine ⟨true, ?_, ?_⟩
                · rw [HE1.out, HF.out]
                  first | rfl | simp
                · rw [HE2.out, HF.out]
                  simp only [HG3.out]
                  exact HK5.out
      · go_wp2
        go_quiet (first | (go_at_call 112; refine Calls.quiet_of_same (Less_any _ _ _)))
        go_wp2
        have HU : Hid (scanUp (fun x => ltInt x dk[a]!) dk j i = i2) := by
          show _ = _
          rw [← HI.out, up_stop (.inl hle)]
        have HK3 : Hid (At blk off w0 (wr.drewN nq) n dk) := HK2.out.drewN _
        go_loopw [11] (fun vj wr2 => ∃ (j2 : Nat), vj = .int .i64 j2 ∧ i2 ≤ j2 + 1 ∧ j2 ≤ j ∧ At blk off w0 wr2 n dk ∧ scanDown (fun x => !ltInt x dk[a]!) dk i2 j2 = scanDown (fun x => !ltInt x dk[a]!) dk i2 j) (fun vj _ => (intOf vj).toNat)
        case atStart => exact ⟨j, rfl, hi2j, Nat.le_refl _, HK3.out, rfl⟩
        case round =>
          obtain ⟨j2, rfl, hij2, hj2, hAt3, hJ⟩ := hrel
          obtain ⟨G3, hG3, hcw3, hfw3⟩ := hAt3.fam
          have HG3 : Hid (∀ t, G3 t = dk[t]!) := hG3
          have HJ : Hid (scanDown (fun x => !ltInt x dk[a]!) dk i2 j2 = scanDown (fun x => !ltInt x dk[a]!) dk i2 j) := hJ
          have HK4 : Hid (At blk off w0 wr n dk) := hAt3
          clear hJ hAt3 hG3
          by_cases hle2 : i2 ≤ j2
          · exfalso; omega
          · go_wp2
            go_quiet (first | (go_at_call 112; refine Calls.quiet_of_same (Less_any _ _ _)))
            go_wp2
            have HD : Hid (scanDown (fun x => !ltInt x dk[a]!) dk i2 j = j2) := by
              show _ = _
              rw [← HJ.out, down_stop (.inl hle2)]
            have HF : Hid (R = (j2, dk)) := by
              show _ = _
              rw [← HO.out, partLoop_eq ltInt a i j dk, HU.out, HD.out, if_pos (by omega)]
            have haj2 : a ≤ j2 := by omega
            have hj2n : j2 < n := by omega
            have HK5 : Hid (At blk off w0 (((wr.drewN nq).drew.setCell ⟨blk, off + j2, none⟩ (enc dk[a]!)).setCell ⟨blk, off + a, none⟩ (enc dk[j2]!)) n (swp dk j2 a)) := ((HK4.out.drewN _).drew).swap (by omega) (by omega)
            by_cases hja : j2 = a
            · subst hja
              try (exfalso; omega)
              all_goals
                go_region
                all_goals go_wp2
                go_ret2
                refine ⟨true, ?_, ?_⟩
                · rw [HE1.out, HF.out]
                  first | rfl | simp
                · rw [HE2.out, HF.out]
                  simp only [HG3.out]
                  exact HK5.out
            · go_region
              all_goals go_wp2
              go_ret2
              refine ⟨true, ?_, ?_⟩
              · rw [HE1.out, HF.out]
                first | rfl | simp
              · rw [HE2.out, HF.out]
                simp only [HG3.out]
                exact HK5.out
end SrtI
end Go.Proofs.Ytpmmpdkeahmdiaa

/- The library's sort at int: some steps of insertion. -/
namespace Go.Proofs.Ytpmmpdkeahmdiaa
open Go.RowKit Go.Sort
set_option maxRecDepth 100000
namespace SrtI

theorem ss_go {d : Array Int} {b i : Nat} (h : i < b) (hl : ltInt d[i]! d[i - 1]! = false) : scanSorted ltInt d b i = scanSorted ltInt d b (i + 1) := by rw [scanSorted, if_pos (by simp only [h, hl]; rfl)]
theorem ss_stop {d : Array Int} {b i : Nat} (h : ¬ i < b ∨ ltInt d[i]! d[i - 1]! = true) : scanSorted ltInt d b i = i := by
  rw [scanSorted, if_neg]
  rcases h with h | h
  · simp [h]
  · rw [h]; simp
theorem sd_go1 {d : Array Int} {j : Nat} (h0 : 0 < j) (hl : ltInt d[j]! d[j - 1]! = true) : shiftDown ltInt j d = shiftDown ltInt (j - 1) (swp d j (j - 1)) := by
  obtain ⟨k, rfl⟩ : ∃ k, j = k + 1 := ⟨j - 1, by omega⟩
  simp only [Nat.add_sub_cancel] at hl ⊢
  rw [shiftDown, hl, if_neg (by simp)]
theorem sd_stop1 {d : Array Int} {j : Nat} (h : j = 0 ∨ ltInt d[j]! d[j - 1]! = false) : shiftDown ltInt j d = d := by
  cases j with
  | zero => rfl
  | succ k =>
    rcases h with h | h
    · omega
    · simp only [Nat.add_sub_cancel] at h
      rw [shiftDown, h, if_pos (by simp)]
theorem su_go {d : Array Int} {b j : Nat} (h : j < b) (hl : ltInt d[j]! d[j - 1]! = true) : shiftUp ltInt b j d = shiftUp ltInt b (j + 1) (swp d j (j - 1)) := by rw [shiftUp, if_pos h, hl, if_neg (by simp)]
theorem su_stop {d : Array Int} {b j : Nat} (h : ¬ j < b ∨ ltInt d[j]! d[j - 1]! = false) : shiftUp ltInt b j d = d := by
  rw [shiftUp]
  rcases h with h | h
  · rw [if_neg h]
  · split
    · rw [h, if_pos (by simp)]
    · rfl

set_option maxHeartbeats 32000000 in
theorem partialInsertionSort_any (blk off cap a b n : Nat) (d : Array Int) (w0 w : World) (hA : At blk off w0 w n d) (hab : a < b) (hb : b ≤ n) (hsz : n < 2305843009213693952) :
    Calls Try.prog 111 #[.slice (some ⟨blk, off, none⟩) n cap, .int .i64 a, .int .i64 b] w fun e w' =>
      e = .returned (.bool (partialInsertionSort ltInt d a b).2) ∧ At blk off w0 w' n (partialInsertionSort ltInt d a b).1 := by
  obtain ⟨R, hR⟩ : ∃ R, partialIns ltInt a b 5 (a + 1) d = R := ⟨_, rfl⟩
  have HE : Hid (partialInsertionSort ltInt d a b = R) := by show _ = _; rw [partialInsertionSort, hR]
  have HO0 : Hid (partialIns ltInt a b 5 (a + 1) d = R) := hR
  have HA : Hid (At blk off w0 w n d) := hA
  clear hA hR
  go_enter Try.func111, Try.ntmps111
  go_wp2
  go_loopw [7, 8] (fun vi vs wr => ∃ (i s : Nat) (dk : Array Int), vi = .int .i64 i ∧ vs = .int .i64 (5 - (s : Int)) ∧ s ≤ 5 ∧ a < i ∧ i ≤ b ∧ At blk off w0 wr n dk ∧ partialIns ltInt a b s i dk = R) (fun _ vs _ => (5 - intOf vs).toNat)
  case atStart => exact ⟨a + 1, 5, d, by go_num, rfl, Nat.le_refl _, by omega, by omega, HA.out, HO0.out⟩
  case round =>
    obtain ⟨i, s, dk, rfl, rfl, hs5, hai, hib, hAt, hO⟩ := hrel
    have HO : Hid (partialIns ltInt a b s i dk = R) := hO
    have HK : Hid (At blk off w0 wr n dk) := hAt
    clear hO hAt
    rcases s with _ | s
    · go_wp2
      go_ret
      refine ⟨?_, ?_⟩
      · rw [HE.out, ← HO.out]
        first | rfl | simp [partialIns]
      · rw [HE.out, ← HO.out]
        exact HK.out
    · have hs5' : (5 : Int) - ((s + 1 : Nat) : Int) < 5 := by omega
      go_wp2
      go_loopw [7] (fun vi wr2 => ∃ (i2 : Nat), vi = .int .i64 i2 ∧ i ≤ i2 ∧ i2 ≤ b ∧ At blk off w0 wr2 n dk ∧ scanSorted ltInt dk b i2 = scanSorted ltInt dk b i) (fun vi _ => (b - (intOf vi).toNat))
      case atStart => exact ⟨i, rfl, Nat.le_refl _, hib, HK.out, rfl⟩
      case round =>
        obtain ⟨i2, rfl, hi2, hi2b, hAt2, hI⟩ := hrel
        obtain ⟨G2, hG2, hcw2, hfw2⟩ := hAt2.fam
        have HG2 : Hid (∀ t, G2 t = dk[t]!) := hG2
        have HI : Hid (scanSorted ltInt dk b i2 = scanSorted ltInt dk b i) := hI
        have HK2 : Hid (At blk off w0 wr n dk) := hAt2
        clear hI hAt2 hG2
        by_cases hlt : i2 < b
        · have hi2n : i2 < n := by omega
          have hi21 : 1 ≤ i2 := by omega
          go_wp2
          go_quiet (first | (go_at_call 112; refine Calls.quiet_of_same (Less_any _ _ _)))
          go_wp2
          · have hl : ltInt (G2 i2) (G2 (i2 - 1)) = false := by first | assumption | (refine bnot_t ?_; assumption)
            go_roundw
            case rel => exact ⟨i2 + 1, by go_num, by omega, by omega, HK2.out.drewN _, by rw [← HI.out, ← ss_go hlt (by rw [← HG2.out, ← HG2.out, hl])]⟩
            case measure => simp [intOf]; omega
          · have hl : ltInt (G2 i2) (G2 (i2 - 1)) = true := by first | assumption | (refine bnot_f ?_; assumption) | (refine bnot_n ?_; assumption)
            have HU : Hid (scanSorted ltInt dk b i = i2) := by
              show _ = _
              rw [← HI.out, ss_stop (.inr (by rw [← HG2.out, ← HG2.out, hl]))]
            go_ret
            refine ⟨?_, ?_⟩
            · rw [HE.out, ← HO.out, partialIns_succ, HU.out, if_neg (by omega), if_pos (by omega)]
              first | rfl | simp
            · rw [HE.out, ← HO.out, partialIns_succ, HU.out, if_neg (by omega), if_pos (by omega)]
              exact HK2.out.drewN _
          · have hl : ltInt (G2 i2) (G2 (i2 - 1)) = true := by first | assumption | (refine bnot_f ?_; assumption) | (refine bnot_n ?_; assumption)
            have HU : Hid (scanSorted ltInt dk b i = i2) := by
              show _ = _
              rw [← HI.out, ss_stop (.inr (by rw [← HG2.out, ← HG2.out, hl]))]
            clear hl
            obtain ⟨D1, hD1⟩ : ∃ D, swp dk i2 (i2 - 1) = D := ⟨_, rfl⟩
            obtain ⟨D2, hD2⟩ : ∃ D, fixDown ltInt a i2 D1 = D := ⟨_, rfl⟩
            obtain ⟨D3, hD3⟩ : ∃ D, fixUp ltInt b i2 D2 = D := ⟨_, rfl⟩
            have HN : Hid (partialIns ltInt a b s i2 D3 = R) := by
              show _ = _
              rw [← HO.out, partialIns_succ, HU.out, if_neg (by omega), if_neg (by omega), hD1, hD2, hD3]
            have HK3 : Hid (At blk off w0 (((wr.drewN nq).drew.setCell ⟨blk, off + i2, none⟩ (enc dk[i2 - 1]!)).setCell ⟨blk, off + (i2 - 1), none⟩ (enc dk[i2]!)) n D1) := by
              rw [← hD1]
              exact ((HK2.out.drewN _).drew).swap (by omega) (by omega)
            have HD2 : Hid (fixDown ltInt a i2 D1 = D2) := hD2
            have HD3 : Hid (fixUp ltInt b i2 D2 = D3) := hD3
            clear hD1 hD2 hD3
            by_cases hbi : 2 ≤ b - i2
            · have hbi' : (2 : Int) ≤ (b : Int) - (i2 : Int) := by omega
              by_cases hia : 2 ≤ i2 - a
              · have hia' : (2 : Int) ≤ (i2 : Int) - (a : Int) := by omega
                go_region
                all_goals go_wp2
                go_loopw [9] (fun vj wr2 => ∃ (m : Nat) (dj : Array Int), vj = .int .i64 m ∧ m ≤ i2 - 1 ∧ At blk off w0 wr2 n dj ∧ shiftDown ltInt m dj = D2) (fun vj _ => (intOf vj).toNat)
                case atStart => exact ⟨i2 - 1, D1, by congr 1; omega, Nat.le_refl _, (by simp only [HG2.out]; exact HK3.out), by rw [← HD2.out, fixDown, if_pos hia]⟩
                case round =>
                  clear HK3 hcw2 hfw2 HG2 HK2 HI HU
                  obtain ⟨m, dj, rfl, hm, hAt3, hJ⟩ := hrel
                  obtain ⟨G3, hG3, hcw3, hfw3⟩ := hAt3.fam
                  have HG3 : Hid (∀ t, G3 t = dj[t]!) := hG3
                  have HJ : Hid (shiftDown ltInt m dj = D2) := hJ
                  have HK4 : Hid (At blk off w0 wr n dj) := hAt3
                  clear hG3 hJ hAt3
                  by_cases hm1 : 1 ≤ m
                  · skip
                    have hmn : m < n := by omega
                    obtain ⟨l, hL⟩ : ∃ l, m - 1 = l := ⟨_, rfl⟩
                    have HL : Hid (m - 1 = l) := hL
                    have hli : (m : Int) - 1 = (l : Int) := by omega
                    have hln : l < n := by omega
                    have hml : ¬ m = l := by omega
                    have hwl : IntKind.i64.wrap (l : Int) = (l : Int) := wrapId (by omega) (by omega)
                    have hx1 : (0 : Int) ≤ (l : Int) := by omega
                    have hx2 : (l : Int) < (n : Int) := by omega
                    have hx3 : (0 : Int) ≤ (m : Int) := by omega
                    have hx4 : (m : Int) < (n : Int) := by omega
                    have ht1 : ((l : Int)).toNat = l := by omega
                    clear hL
                    go_wp2
                    go_quiet (first | (go_at_call 112; refine Calls.quiet_of_same (Less_any _ _ _)))
                    go_wp2
                    · have hl2 : ltInt (G3 m) (G3 l) = false := by first | assumption | (refine bnot_t ?_; assumption)
                      have HM : Hid (At blk off w0 (wr.drewN nq) n D2) := by
                        rw [← HJ.out, sd_stop1 (.inr (by rw [HL.out, ← HG3.out, ← HG3.out, hl2]))]
                        exact HK4.out.drewN _
                      clear hcw3 hfw3 HG3 HK4 HJ hl2 hwl hli hml hx1 hx2 hx3 hx4 ht1 hmn HL hln
                      go_loopw [10] (fun vj wr2 => ∃ (m : Nat) (dj : Array Int), vj = .int .i64 m ∧ i2 < m ∧ m ≤ b ∧ At blk off w0 wr2 n dj ∧ shiftUp ltInt b m dj = D3) (fun vj _ => (b - (intOf vj).toNat))
                      case atStart => exact ⟨i2 + 1, D2, by go_num, by omega, by omega, (by first | exact HM.out | (simp only [HG2.out]; exact HM.out)), by rw [← HD3.out, fixUp, if_pos hbi]⟩
                      case round =>
                        clear HM
                        obtain ⟨m, dj, rfl, hm, hmb, hAt3, hJ⟩ := hrel
                        obtain ⟨G3, hG3, hcw3, hfw3⟩ := hAt3.fam
                        have HG3 : Hid (∀ t, G3 t = dj[t]!) := hG3
                        have HJ : Hid (shiftUp ltInt b m dj = D3) := hJ
                        have HK4 : Hid (At blk off w0 wr n dj) := hAt3
                        clear hG3 hJ hAt3
                        by_cases hm1 : m < b
                        · skip
                          have hmn : m < n := by omega
                          obtain ⟨l, hL⟩ : ∃ l, m - 1 = l := ⟨_, rfl⟩
                          have HL : Hid (m - 1 = l) := hL
                          have hli : (m : Int) - 1 = (l : Int) := by omega
                          have hln : l < n := by omega
                          have hml : ¬ m = l := by omega
                          have hwl : IntKind.i64.wrap (l : Int) = (l : Int) := wrapId (by omega) (by omega)
                          have hx1 : (0 : Int) ≤ (l : Int) := by omega
                          have hx2 : (l : Int) < (n : Int) := by omega
                          have hx3 : (0 : Int) ≤ (m : Int) := by omega
                          have hx4 : (m : Int) < (n : Int) := by omega
                          have ht1 : ((l : Int)).toNat = l := by omega
                          clear hL
                          go_wp2
                          go_quiet (first | (go_at_call 112; refine Calls.quiet_of_same (Less_any _ _ _)))
                          go_wp2
                          · have hl2 : ltInt (G3 m) (G3 l) = false := by first | assumption | (refine bnot_t ?_; assumption)
                            have HM3 : Hid (At blk off w0 (wr.drewN nq) n D3) := by
                              rw [← HJ.out, su_stop (.inr (by rw [HL.out, ← HG3.out, ← HG3.out, hl2]))]
                              exact HK4.out.drewN _
                            go_roundw
                            case rel => exact ⟨i2, s, D3, rfl, by congr 1; omega, by omega, by omega, by omega, HM3.out, HN.out⟩
                            case measure => simp [intOf]; omega
                          · have hl2 : ltInt (G3 m) (G3 l) = true := by first | assumption | (refine bnot_f ?_; assumption) | (refine bnot_n ?_; assumption)
                            go_region
                            all_goals go_wp2
                            go_roundw
                            case rel =>
                              refine ⟨m + 1, swp dj m l, by go_num, by omega, by omega, ?_, by rw [← HJ.out, su_go (j := m) (d := dj) hm1 (by rw [HL.out, ← HG3.out, ← HG3.out, hl2]), HL.out]⟩
                              simp only [HG3.out]
                              exact ((HK4.out.drewN _).drew).swap (by omega) (by omega)
                            case measure => simp [intOf]; omega
                        · go_wp2
                          have HM3 : Hid (At blk off w0 wr n D3) := by
                            rw [← HJ.out, su_stop (.inl hm1)]
                            exact HK4.out
                          go_roundw
                          case rel => exact ⟨i2, s, D3, rfl, by congr 1; omega, by omega, by omega, by omega, HM3.out, HN.out⟩
                          case measure => simp [intOf]; omega
                    · have hl2 : ltInt (G3 m) (G3 l) = true := by first | assumption | (refine bnot_f ?_; assumption) | (refine bnot_n ?_; assumption)
                      go_region
                      all_goals go_wp2
                      go_roundw
                      case rel =>
                        refine ⟨l, swp dj m l, by congr 1; try omega, by omega, ?_, by rw [← HJ.out, sd_go1 (j := m) (d := dj) (by omega) (by rw [HL.out, ← HG3.out, ← HG3.out, hl2]), HL.out]⟩
                        simp only [HG3.out]
                        exact ((HK4.out.drewN _).drew).swap (by omega) (by omega)
                      case measure => simp [intOf]; omega
                  · have hm0 : m = 0 := by omega
                    subst hm0
                    have HM : Hid (At blk off w0 wr n D2) := by
                      rw [← HJ.out]
                      exact HK4.out
                    clear hcw3 hfw3 HG3 HK4 HJ
                    go_wp2
                    go_loopw [10] (fun vj wr2 => ∃ (m : Nat) (dj : Array Int), vj = .int .i64 m ∧ i2 < m ∧ m ≤ b ∧ At blk off w0 wr2 n dj ∧ shiftUp ltInt b m dj = D3) (fun vj _ => (b - (intOf vj).toNat))
                    case atStart => exact ⟨i2 + 1, D2, by go_num, by omega, by omega, (by first | exact HM.out | (simp only [HG2.out]; exact HM.out)), by rw [← HD3.out, fixUp, if_pos hbi]⟩
                    case round =>
                      clear HM
                      obtain ⟨m, dj, rfl, hm, hmb, hAt3, hJ⟩ := hrel
                      obtain ⟨G3, hG3, hcw3, hfw3⟩ := hAt3.fam
                      have HG3 : Hid (∀ t, G3 t = dj[t]!) := hG3
                      have HJ : Hid (shiftUp ltInt b m dj = D3) := hJ
                      have HK4 : Hid (At blk off w0 wr n dj) := hAt3
                      clear hG3 hJ hAt3
                      by_cases hm1 : m < b
                      · skip
                        have hmn : m < n := by omega
                        obtain ⟨l, hL⟩ : ∃ l, m - 1 = l := ⟨_, rfl⟩
                        have HL : Hid (m - 1 = l) := hL
                        have hli : (m : Int) - 1 = (l : Int) := by omega
                        have hln : l < n := by omega
                        have hml : ¬ m = l := by omega
                        have hwl : IntKind.i64.wrap (l : Int) = (l : Int) := wrapId (by omega) (by omega)
                        have hx1 : (0 : Int) ≤ (l : Int) := by omega
                        have hx2 : (l : Int) < (n : Int) := by omega
                        have hx3 : (0 : Int) ≤ (m : Int) := by omega
                        have hx4 : (m : Int) < (n : Int) := by omega
                        have ht1 : ((l : Int)).toNat = l := by omega
                        clear hL
                        go_wp2
                        go_quiet (first | (go_at_call 112; refine Calls.quiet_of_same (Less_any _ _ _)))
                        go_wp2
                        · have hl2 : ltInt (G3 m) (G3 l) = false := by first | assumption | (refine bnot_t ?_; assumption)
                          have HM3 : Hid (At blk off w0 (wr.drewN nq) n D3) := by
                            rw [← HJ.out, su_stop (.inr (by rw [HL.out, ← HG3.out, ← HG3.out, hl2]))]
                            exact HK4.out.drewN _
                          go_roundw
                          case rel => exact ⟨i2, s, D3, rfl, by congr 1; omega, by omega, by omega, by omega, HM3.out, HN.out⟩
                          case measure => simp [intOf]; omega
                        · have hl2 : ltInt (G3 m) (G3 l) = true := by first | assumption | (refine bnot_f ?_; assumption) | (refine bnot_n ?_; assumption)
                          go_region
                          all_goals go_wp2
                          go_roundw
                          case rel =>
                            refine ⟨m + 1, swp dj m l, by go_num, by omega, by omega, ?_, by rw [← HJ.out, su_go (j := m) (d := dj) hm1 (by rw [HL.out, ← HG3.out, ← HG3.out, hl2]), HL.out]⟩
                            simp only [HG3.out]
                            exact ((HK4.out.drewN _).drew).swap (by omega) (by omega)
                          case measure => simp [intOf]; omega
                      · go_wp2
                        have HM3 : Hid (At blk off w0 wr n D3) := by
                          rw [← HJ.out, su_stop (.inl hm1)]
                          exact HK4.out
                        go_roundw
                        case rel => exact ⟨i2, s, D3, rfl, by congr 1; omega, by omega, by omega, by omega, HM3.out, HN.out⟩
                        case measure => simp [intOf]; omega
              · have hia' : decide ((2 : Int) ≤ (i2 : Int) - (a : Int)) = false := by simp; omega
                try (exfalso; omega)
                all_goals
                  go_region
                  all_goals go_wp2
                  have HM : Hid (At blk off w0 (((wr.drewN nq).drew.setCell ⟨blk, off + i2, none⟩ (enc dk[i2 - 1]!)).setCell ⟨blk, off + (i2 - 1), none⟩ (enc dk[i2]!)) n D2) := by
                    rw [← HD2.out, fixDown, if_neg hia]
                    exact HK3.out
                  go_loopw [10] (fun vj wr2 => ∃ (m : Nat) (dj : Array Int), vj = .int .i64 m ∧ i2 < m ∧ m ≤ b ∧ At blk off w0 wr2 n dj ∧ shiftUp ltInt b m dj = D3) (fun vj _ => (b - (intOf vj).toNat))
                  case atStart => exact ⟨i2 + 1, D2, by go_num, by omega, by omega, (by first | exact HM.out | (simp only [HG2.out]; exact HM.out)), by rw [← HD3.out, fixUp, if_pos hbi]⟩
                  case round =>
                    clear HM
                    obtain ⟨m, dj, rfl, hm, hmb, hAt3, hJ⟩ := hrel
                    obtain ⟨G3, hG3, hcw3, hfw3⟩ := hAt3.fam
                    have HG3 : Hid (∀ t, G3 t = dj[t]!) := hG3
                    have HJ : Hid (shiftUp ltInt b m dj = D3) := hJ
                    have HK4 : Hid (At blk off w0 wr n dj) := hAt3
                    clear hG3 hJ hAt3
                    by_cases hm1 : m < b
                    · skip
                      have hmn : m < n := by omega
                      obtain ⟨l, hL⟩ : ∃ l, m - 1 = l := ⟨_, rfl⟩
                      have HL : Hid (m - 1 = l) := hL
                      have hli : (m : Int) - 1 = (l : Int) := by omega
                      have hln : l < n := by omega
                      have hml : ¬ m = l := by omega
                      have hwl : IntKind.i64.wrap (l : Int) = (l : Int) := wrapId (by omega) (by omega)
                      have hx1 : (0 : Int) ≤ (l : Int) := by omega
                      have hx2 : (l : Int) < (n : Int) := by omega
                      have hx3 : (0 : Int) ≤ (m : Int) := by omega
                      have hx4 : (m : Int) < (n : Int) := by omega
                      have ht1 : ((l : Int)).toNat = l := by omega
                      clear hL
                      go_wp2
                      go_quiet (first | (go_at_call 112; refine Calls.quiet_of_same (Less_any _ _ _)))
                      go_wp2
                      · have hl2 : ltInt (G3 m) (G3 l) = false := by first | assumption | (refine bnot_t ?_; assumption)
                        have HM3 : Hid (At blk off w0 (wr.drewN nq) n D3) := by
                          rw [← HJ.out, su_stop (.inr (by rw [HL.out, ← HG3.out, ← HG3.out, hl2]))]
                          exact HK4.out.drewN _
                        go_roundw
                        case rel => exact ⟨i2, s, D3, rfl, by congr 1; omega, by omega, by omega, by omega, HM3.out, HN.out⟩
                        case measure => simp [intOf]; omega
                      · have hl2 : ltInt (G3 m) (G3 l) = true := by first | assumption | (refine bnot_f ?_; assumption) | (refine bnot_n ?_; assumption)
                        go_region
                        all_goals go_wp2
                        go_roundw
                        case rel =>
                          refine ⟨m + 1, swp dj m l, by go_num, by omega, by omega, ?_, by rw [← HJ.out, su_go (j := m) (d := dj) hm1 (by rw [HL.out, ← HG3.out, ← HG3.out, hl2]), HL.out]⟩
                          simp only [HG3.out]
                          exact ((HK4.out.drewN _).drew).swap (by omega) (by omega)
                        case measure => simp [intOf]; omega
                    · go_wp2
                      have HM3 : Hid (At blk off w0 wr n D3) := by
                        rw [← HJ.out, su_stop (.inl hm1)]
                        exact HK4.out
                      go_roundw
                      case rel => exact ⟨i2, s, D3, rfl, by congr 1; omega, by omega, by omega, by omega, HM3.out, HN.out⟩
                      case measure => simp [intOf]; omega
            · have hbi' : decide ((2 : Int) ≤ (b : Int) - (i2 : Int)) = false := by simp; omega
              by_cases hia : 2 ≤ i2 - a
              · have hia' : (2 : Int) ≤ (i2 : Int) - (a : Int) := by omega
                go_region
                all_goals go_wp2
                go_loopw [9] (fun vj wr2 => ∃ (m : Nat) (dj : Array Int), vj = .int .i64 m ∧ m ≤ i2 - 1 ∧ At blk off w0 wr2 n dj ∧ shiftDown ltInt m dj = D2) (fun vj _ => (intOf vj).toNat)
                case atStart => exact ⟨i2 - 1, D1, by congr 1; omega, Nat.le_refl _, (by simp only [HG2.out]; exact HK3.out), by rw [← HD2.out, fixDown, if_pos hia]⟩
                case round =>
                  clear HK3 hcw2 hfw2 HG2 HK2 HI HU
                  obtain ⟨m, dj, rfl, hm, hAt3, hJ⟩ := hrel
                  obtain ⟨G3, hG3, hcw3, hfw3⟩ := hAt3.fam
                  have HG3 : Hid (∀ t, G3 t = dj[t]!) := hG3
                  have HJ : Hid (shiftDown ltInt m dj = D2) := hJ
                  have HK4 : Hid (At blk off w0 wr n dj) := hAt3
                  clear hG3 hJ hAt3
                  by_cases hm1 : 1 ≤ m
                  · skip
                    have hmn : m < n := by omega
                    obtain ⟨l, hL⟩ : ∃ l, m - 1 = l := ⟨_, rfl⟩
                    have HL : Hid (m - 1 = l) := hL
                    have hli : (m : Int) - 1 = (l : Int) := by omega
                    have hln : l < n := by omega
                    have hml : ¬ m = l := by omega
                    have hwl : IntKind.i64.wrap (l : Int) = (l : Int) := wrapId (by omega) (by omega)
                    have hx1 : (0 : Int) ≤ (l : Int) := by omega
                    have hx2 : (l : Int) < (n : Int) := by omega
                    have hx3 : (0 : Int) ≤ (m : Int) := by omega
                    have hx4 : (m : Int) < (n : Int) := by omega
                    have ht1 : ((l : Int)).toNat = l := by omega
                    clear hL
                    go_wp2
                    go_quiet (first | (go_at_call 112; refine Calls.quiet_of_same (Less_any _ _ _)))
                    go_wp2
                    · have hl2 : ltInt (G3 m) (G3 l) = false := by first | assumption | (refine bnot_t ?_; assumption)
                      have HM : Hid (At blk off w0 (wr.drewN nq) n D2) := by
                        rw [← HJ.out, sd_stop1 (.inr (by rw [HL.out, ← HG3.out, ← HG3.out, hl2]))]
                        exact HK4.out.drewN _
                      clear hcw3 hfw3 HG3 HK4 HJ hl2 hwl hli hml hx1 hx2 hx3 hx4 ht1 hmn HL hln
                      have HM3 : D2 = D3 := by rw [← HD3.out, fixUp, if_neg hbi]
                      go_roundw
                      case rel => exact ⟨i2, s, D3, rfl, by congr 1; omega, by omega, by omega, by omega, (by rw [← HM3]; first | exact HM.out | (simp only [HG2.out]; exact HM.out)), HN.out⟩
                      case measure => simp [intOf]; omega
                    · have hl2 : ltInt (G3 m) (G3 l) = true := by first | assumption | (refine bnot_f ?_; assumption) | (refine bnot_n ?_; assumption)
                      go_region
                      all_goals go_wp2
                      go_roundw
                      case rel =>
                        refine ⟨l, swp dj m l, by congr 1; try omega, by omega, ?_, by rw [← HJ.out, sd_go1 (j := m) (d := dj) (by omega) (by rw [HL.out, ← HG3.out, ← HG3.out, hl2]), HL.out]⟩
                        simp only [HG3.out]
                        exact ((HK4.out.drewN _).drew).swap (by omega) (by omega)
                      case measure => simp [intOf]; omega
                  · have hm0 : m = 0 := by omega
                    subst hm0
                    have HM : Hid (At blk off w0 wr n D2) := by
                      rw [← HJ.out]
                      exact HK4.out
                    clear hcw3 hfw3 HG3 HK4 HJ
                    go_wp2
                    have HM3 : D2 = D3 := by rw [← HD3.out, fixUp, if_neg hbi]
                    go_roundw
                    case rel => exact ⟨i2, s, D3, rfl, by congr 1; omega, by omega, by omega, by omega, (by rw [← HM3]; first | exact HM.out | (simp only [HG2.out]; exact HM.out)), HN.out⟩
                    case measure => simp [intOf]; omega
              · have hia' : decide ((2 : Int) ≤ (i2 : Int) - (a : Int)) = false := by simp; omega
                try (exfalso; omega)
                all_goals
                  go_region
                  all_goals go_wp2
                  have HM : Hid (At blk off w0 (((wr.drewN nq).drew.setCell ⟨blk, off + i2, none⟩ (enc dk[i2 - 1]!)).setCell ⟨blk, off + (i2 - 1), none⟩ (enc dk[i2]!)) n D2) := by
                    rw [← HD2.out, fixDown, if_neg hia]
                    exact HK3.out
                  have HM3 : D2 = D3 := by rw [← HD3.out, fixUp, if_neg hbi]
                  go_roundw
                  case rel => exact ⟨i2, s, D3, rfl, by congr 1; omega, by omega, by omega, by omega, (by rw [← HM3]; first | exact HM.out | (simp only [HG2.out]; exact HM.out)), HN.out⟩
                  case measure => simp [intOf]; omega
        · have hi2e : i2 = b := by omega
          go_wp2
          go_quiet (first | (go_at_call 112; refine Calls.quiet_of_same (Less_any _ _ _)))
          go_wp2
          have HU : Hid (scanSorted ltInt dk b i = b) := by
            show _ = _
            rw [← HI.out, hi2e, ss_stop (.inl (by omega))]
          go_ret
          refine ⟨?_, ?_⟩
          · rw [HE.out, ← HO.out, partialIns_succ, HU.out, if_pos rfl]
            first | rfl | simp
          · rw [HE.out, ← HO.out, partialIns_succ, HU.out, if_pos rfl]
            exact HK2.out.drewN _
end SrtI
end Go.Proofs.Ytpmmpdkeahmdiaa

/- The library's sort at int: the pivot. -/
namespace Go.Proofs.Ytpmmpdkeahmdiaa
open Go.RowKit Go.Sort
set_option maxRecDepth 100000
namespace SrtI

theorem At.store {blk off n : Nat} {w0 w : World} {d : Array Int} (h : At blk off w0 w n d) (hb : blk < w0.heap.size) {sb : Nat} (hs : w0.heap.size ≤ sb) (c : Nat) (v : Value) : At blk off w0 (w.setCell ⟨sb, c, none⟩ v) n d := by
  have hne : blk ≠ sb := by omega
  refine ⟨holds_same h.holds (Below.heap_setCell _ _ _ _ hne), h.size, ⟨h.step.os, h.step.tape, h.step.output, by simpa [World.setCell] using h.step.size, fun k hk hkb => ?_, fun c' e fr hc => ?_⟩⟩
  · have hk2 : k ≠ sb := by omega
    exact (Below.heap_setCell _ _ _ _ hk2).trans (h.step.block k hk hkb)
  · obtain ⟨c2, h1, h2⟩ := h.step.own c' e fr hc
    exact ⟨c2, (Below.heap_setCell _ _ _ _ hne).trans h1, h2⟩
theorem At.alloc {blk off n : Nat} {w0 w : World} {d : Array Int} (h : At blk off w0 w n d) (hb : blk < w0.heap.size) (o : Obj) : At blk off w0 (w.alloc o) n d := by
  have hl : blk < w.heap.size := Nat.lt_of_lt_of_le hb h.step.size
  exact ⟨holds_same h.holds (Below.heap_alloc _ _ _ hl), h.size, h.step.alloc hl o⟩
/-- The row, and beside it the count of swaps in a block of its own. -/
structure Pv (blk off : Nat) (w0 w : World) (n : Nat) (d : Array Int) (sb : Nat) : Prop where
  at_ : At blk off w0 w n d
  low : blk < w0.heap.size
  own : w0.heap.size ≤ sb
  cell : ∃ v : Int, w.cell? ⟨sb, 0, none⟩ = some (.int .i64 v)
  free : w.frozen? ⟨sb, 0, none⟩ = false
theorem Pv.drewN {blk off n sb : Nat} {w0 w : World} {d : Array Int} (h : Pv blk off w0 w n d sb) (m : Nat) : Pv blk off w0 (w.drewN m) n d sb := ⟨h.at_.drewN m, h.low, h.own, h.cell, h.free⟩
theorem Pv.put {blk off n sb : Nat} {w0 w : World} {d : Array Int} (h : Pv blk off w0 w n d sb) (x : Int) : Pv blk off w0 (w.setCell ⟨sb, 0, none⟩ (.int .i64 x)) n d sb := by
  obtain ⟨v, hv⟩ := h.cell
  exact ⟨h.at_.store h.low h.own 0 _, h.low, h.own, ⟨x, by go_simp⟩, by have := h.free; go_simp⟩

set_option maxHeartbeats 4000000 in
theorem order2_any (blk off cap lo hi a b n sb : Nat) (d : Array Int) (w0 w : World) (hP : Pv blk off w0 w n d sb) (hn : hi ≤ n) (ha : lo ≤ a) (ha2 : a < hi) (hb : lo ≤ b) (hb2 : b < hi) :
    Calls Try.prog 126 #[.slice (some ⟨blk, off, none⟩) n cap, .int .i64 a, .int .i64 b, .pointer (some ⟨sb, 0, none⟩)] w fun e w' =>
      ∃ x y : Nat, e = .returned (.tuple #[.int .i64 x, .int .i64 y]) ∧ lo ≤ x ∧ x < hi ∧ lo ≤ y ∧ y < hi ∧ Pv blk off w0 w' n d sb := by
  obtain ⟨G, hG, hcw, hfw⟩ := hP.at_.fam
  obtain ⟨v, hv⟩ := hP.cell
  have hvf := hP.free
  have HP : Hid (Pv blk off w0 w n d sb) := hP
  have han : a < n := by omega
  have hbn : b < n := by omega
  clear hP hG
  go_enter Try.func126, Try.ntmps126
  go_wp2
  go_quiet (first | (go_at_call 112; refine Calls.quiet_of_same (Less_any _ _ _)))
  go_wp2
  · go_ret2
    exact ⟨b, a, rfl, hb, hb2, ha, ha2, (HP.out.drewN _).put _⟩
  · go_ret2
    exact ⟨a, b, rfl, ha, ha2, hb, hb2, HP.out.drewN _⟩

set_option maxHeartbeats 4000000 in
theorem median_any (blk off cap lo hi a b c n sb : Nat) (d : Array Int) (w0 w : World) (hP : Pv blk off w0 w n d sb) (hn : hi ≤ n) (ha : lo ≤ a) (ha2 : a < hi) (hb : lo ≤ b) (hb2 : b < hi) (hc : lo ≤ c) (hc2 : c < hi) :
    Calls Try.prog 123 #[.slice (some ⟨blk, off, none⟩) n cap, .int .i64 a, .int .i64 b, .int .i64 c, .pointer (some ⟨sb, 0, none⟩)] w fun e w' =>
      ∃ x : Nat, e = .returned (.int .i64 x) ∧ lo ≤ x ∧ x < hi ∧ Pv blk off w0 w' n d sb := by
  go_enter Try.func123, Try.ntmps123
  go_wp2_with (go_at_call 126; refine (order2_any blk off cap lo hi _ _ n sb d w0 _ (by assumption) hn (by assumption) (by assumption) (by assumption) (by assumption)).mono ?_; rintro e w' ⟨x, y, rfl, h1, h2, h3, h4, P⟩)
  go_ret
  refine ⟨_, by simp; rfl, by assumption, by assumption, by assumption⟩
set_option maxHeartbeats 4000000 in
theorem medianAdjacent_any (blk off cap lo hi a n sb : Nat) (d : Array Int) (w0 w : World) (hP : Pv blk off w0 w n d sb) (hn : hi ≤ n) (ha : lo + 1 ≤ a) (hb : a + 1 < hi) (hsz : n < 2305843009213693952) :
    Calls Try.prog 122 #[.slice (some ⟨blk, off, none⟩) n cap, .int .i64 a, .pointer (some ⟨sb, 0, none⟩)] w fun e w' =>
      ∃ x : Nat, e = .returned (.int .i64 x) ∧ lo ≤ x ∧ x < hi ∧ Pv blk off w0 w' n d sb := by
  obtain ⟨i, hi'⟩ : ∃ i, a - 1 = i := ⟨_, rfl⟩
  obtain ⟨j, hj'⟩ : ∃ j, a + 1 = j := ⟨_, rfl⟩
  have hii : (a : Int) - 1 = (i : Int) := by omega
  have hji : (a : Int) + 1 = (j : Int) := by omega
  have h1 : lo ≤ i := by omega
  have h2 : i < hi := by omega
  have h3 : lo ≤ j := by omega
  have h4 : j < hi := by omega
  have h5 : lo ≤ a := by omega
  have h6 : a < hi := by omega
  clear hi' hj'
  go_enter Try.func122, Try.ntmps122
  go_wp2_with (go_at_call 123; refine (median_any blk off cap lo hi _ _ _ n sb d w0 _ (by assumption) hn (by assumption) (by assumption) (by assumption) (by assumption) (by assumption) (by assumption)).mono ?_; rintro e w' ⟨x, rfl, g1, g2, P⟩)
  go_ret
  exact ⟨x, by simp, g1, g2, P⟩

set_option maxHeartbeats 8000000 in
theorem choosePivot_any (blk off cap a b n : Nat) (d : Array Int) (w0 w : World) (hA : At blk off w0 w n d) (hlow : blk < w0.heap.size) (hab : a + 12 < b) (hb : b ≤ n) (hsz : n < 2305843009213693952) :
    Calls Try.prog 109 #[.slice (some ⟨blk, off, none⟩) n cap, .int .i64 a, .int .i64 b] w fun e w' =>
      ∃ (p : Nat) (h : Int), e = .returned (.tuple #[.int .i64 p, .int .i64 h]) ∧ a ≤ p ∧ p < b ∧ At blk off w0 w' n d := by
  have HP : Hid (Pv blk off w0 (w.alloc (.cells #[.int .i64 0] 3)) n d w.heap.size) :=
    ⟨hA.alloc hlow _, hlow, hA.step.size, ⟨0, by go_simp⟩, by go_simp⟩
  obtain ⟨l, hl⟩ : ∃ l, b - a = l := ⟨_, rfl⟩
  obtain ⟨q, hq⟩ : ∃ q, l / 4 = q := ⟨_, rfl⟩
  obtain ⟨i, hi'⟩ : ∃ i, a + q = i := ⟨_, rfl⟩
  obtain ⟨j, hj'⟩ : ∃ j, a + q * 2 = j := ⟨_, rfl⟩
  obtain ⟨k, hk'⟩ : ∃ k, a + q * 3 = k := ⟨_, rfl⟩
  have hli : (b : Int) - (a : Int) = (l : Int) := by omega
  have hqi : (l : Int).tdiv 4 = (q : Int) := by rw [Int.tdiv_eq_ediv_of_nonneg (by omega)]; omega
  have hii : (a : Int) + (q : Int) = (i : Int) := by omega
  have hji : (a : Int) + (q : Int) * 2 = (j : Int) := by omega
  have hki : (a : Int) + (q : Int) * 3 = (k : Int) := by omega
  have hl8 : (8 : Int) ≤ (l : Int) := by omega
  have i1 : a + 1 ≤ i := by omega
  have i2 : i + 1 < b := by omega
  have j1 : a + 1 ≤ j := by omega
  have j2 : j + 1 < b := by omega
  have k1 : a + 1 ≤ k := by omega
  have k2 : k + 1 < b := by omega
  have i3 : a ≤ i := by omega
  have i4 : i < b := by omega
  have j3 : a ≤ j := by omega
  have j4 : j < b := by omega
  have k3 : a ≤ k := by omega
  have k4 : k < b := by omega
  clear hl hq hi' hj' hk' hA
  have hP := HP.out
  go_enter Try.func109, Try.ntmps109
  go_wp2_with (first | (go_at_call 122; refine (medianAdjacent_any blk off cap a b _ n w.heap.size d w0 _ (by assumption) hb (by assumption) (by assumption) hsz).mono ?_; rintro e w' ⟨x, rfl, g1, g2, P⟩) | (go_at_call 123; refine (median_any blk off cap a b _ _ _ n w.heap.size d w0 _ (by assumption) hb (by assumption) (by assumption) (by assumption) (by assumption) (by assumption) (by assumption)).mono ?_; rintro e w' ⟨x, rfl, g1, g2, P⟩; obtain ⟨v, hv⟩ := P.cell))
  all_goals go_ret2
  all_goals exact ⟨x, _, rfl, g1, g2, P.at_⟩
end SrtI
end Go.Proofs.Ytpmmpdkeahmdiaa

/- The library's sort at int: breaking patterns. -/
namespace Go.Proofs.Ytpmmpdkeahmdiaa
open Go.RowKit Go.Sort
set_option maxRecDepth 100000
namespace SrtI

/-- The row, and beside it the random number in a block of its own. -/
structure Pr (blk off : Nat) (w0 w : World) (n : Nat) (d : Array Int) (sb : Nat) : Prop where
  at_ : At blk off w0 w n d
  low : blk < w0.heap.size
  own : w0.heap.size ≤ sb
  cell : ∃ v : Nat, v < 18446744073709551616 ∧ w.cell? ⟨sb, 0, none⟩ = some (.int .u64 v)
  free : w.frozen? ⟨sb, 0, none⟩ = false
theorem Pr.drewN {blk off n sb : Nat} {w0 w : World} {d : Array Int} (h : Pr blk off w0 w n d sb) (m : Nat) : Pr blk off w0 (w.drewN m) n d sb := ⟨h.at_.drewN m, h.low, h.own, h.cell, h.free⟩
theorem Pr.put {blk off n sb : Nat} {w0 w : World} {d : Array Int} (h : Pr blk off w0 w n d sb) {x : Nat} (hx : x < 18446744073709551616) : Pr blk off w0 (w.setCell ⟨sb, 0, none⟩ (.int .u64 x)) n d sb := by
  obtain ⟨v, _, hv⟩ := h.cell
  exact ⟨h.at_.store h.low h.own 0 _, h.low, h.own, ⟨x, hx, by go_simp⟩, by have := h.free; go_simp⟩
theorem xorU (x y : Nat) (hx : x < 18446744073709551616) (hy : y < 18446744073709551616) : ∃ A : Nat, A < 18446744073709551616 ∧ bits .xor .u64 (x : Int) (y : Int) = (A : Int) :=
  ⟨x ^^^ y, Nat.xor_lt_two_pow (n := 64) (by omega) (by omega), bits_xor_u64_nat x y hx hy⟩
set_option maxHeartbeats 4000000 in
theorem Next_any (blk off n sb : Nat) (d : Array Int) (w0 w : World) (hP : Pr blk off w0 w n d sb) :
    Calls Try.prog 117 #[.pointer (some ⟨sb, 0, none⟩)] w fun e w' =>
      ∃ x : Nat, x < 18446744073709551616 ∧ e = .returned (.int .u64 x) ∧ Pr blk off w0 w' n d sb := by
  obtain ⟨X, hX, hc⟩ := hP.cell
  have hf := hP.free
  have HP : Hid (Pr blk off w0 w n d sb) := hP
  clear hP
  obtain ⟨A, hA, e1⟩ : ∃ A : Nat, A < 18446744073709551616 ∧ bits .xor .u64 (X : Int) (IntKind.u64.wrap ((X : Int) * 8192)) = (A : Int) := by
    rw [IntKind.wrap_u64, show ((X : Int) * 8192 % 18446744073709551616) = ((X * 8192 % 18446744073709551616 : Nat) : Int) by omega]
    exact xorU _ _ hX (by omega)
  obtain ⟨B, hB, e2⟩ : ∃ B : Nat, B < 18446744073709551616 ∧ bits .xor .u64 (A : Int) ((A : Int) / 128) = (B : Int) := by
    rw [show ((A : Int) / 128) = ((A / 128 : Nat) : Int) by omega]
    exact xorU _ _ hA (by omega)
  obtain ⟨C, hC, e3⟩ : ∃ C : Nat, C < 18446744073709551616 ∧ bits .xor .u64 (B : Int) (IntKind.u64.wrap ((B : Int) * 131072)) = (C : Int) := by
    rw [IntKind.wrap_u64, show ((B : Int) * 131072 % 18446744073709551616) = ((B * 131072 % 18446744073709551616 : Nat) : Int) by omega]
    exact xorU _ _ hB (by omega)
  have hss : ∀ v v', (w.setCell ⟨sb, 0, none⟩ v).setCell ⟨sb, 0, none⟩ v' = w.setCell ⟨sb, 0, none⟩ v' := setCell_setCell w sb 0
  have HC : Hid (C < 18446744073709551616) := hC
  clear hA hB hC hX
  go_enter Try.func117, Try.ntmps117
  go_wp2
  go_region
  all_goals go_wp2
  all_goals go_region
  all_goals go_wp2
  all_goals go_region
  all_goals go_wp2
  go_ret
  exact ⟨C, HC.out, rfl, (HP.out.put HC.out).drewN 3⟩
theorem nextPower_any (l : Nat) (hl : 0 < l) (hl2 : l < 4611686018427387904) (w : World) :
    Calls Try.prog 116 #[.int .i64 l] w fun e w' => ∃ M : Nat, e = .returned (.int .u64 M) ∧ w' = w ∧ l < M ∧ M ≤ 2 * l := by
  have hLen : ∀ w, Calls Try.prog 90 #[.int .u64 (l : Int)] w fun e w' => e = .returned (.int .i64 (bitsLen l : Nat)) ∧ w' = w := fun w => by
    have h := bits_Len (l : Int) w (by omega) (by omega)
    rwa [Int.toNat_natCast, bitLen_eq _ (by omega)] at h
  have hk : bitsLen l ≤ 62 := (bitsLen_le_iff l 62).2 (by omega)
  have hp := wrap_two_pow (bitsLen l) hk
  have h1 := lt_two_pow_bitsLen l
  have h2 := two_pow_bitsLen_le hl
  have HH : Hid (l < 2 ^ bitsLen l ∧ 2 ^ bitsLen l ≤ 2 * l) := ⟨h1, h2⟩
  clear h1 h2
  go_enter Try.func116, Try.ntmps116
  go_wp2_with (first | (go_at_call 90; refine (hLen _).mono ?_; rintro e w' ⟨rfl, rfl⟩))
  go_ret
  exact ⟨1 <<< bitsLen l, rfl, rfl, by rw [Nat.one_shiftLeft]; exact HH.out.1, by rw [Nat.one_shiftLeft]; exact HH.out.2⟩
end SrtI
end Go.Proofs.Ytpmmpdkeahmdiaa

/- The library's sort at int: breaking patterns. -/
namespace Go.Proofs.Ytpmmpdkeahmdiaa
open Go.RowKit Go.Sort
set_option maxRecDepth 100000
namespace SrtI

theorem Pr.swap {blk off n sb : Nat} {w0 w : World} {d : Array Int} (h : Pr blk off w0 w n d sb) {i j : Nat} (hi : i < n) (hj : j < n) :
    Pr blk off w0 ((w.drew.setCell ⟨blk, off + i, none⟩ (enc d[j]!)).setCell ⟨blk, off + j, none⟩ (enc d[i]!)) n (swp d i j) sb := by
  have hne : sb ≠ blk := by have := h.low; have := h.own; omega
  obtain ⟨v, hv, hc⟩ := h.cell
  refine ⟨(h.at_.drew).swap hi hj, h.low, h.own, ⟨v, hv, ?_⟩, ?_⟩
  · rw [World.cell?_of_block (w := w) (a := ⟨sb, 0, none⟩) (by
      show ((w.drew.setCell ⟨blk, off + i, none⟩ (enc d[j]!)).setCell ⟨blk, off + j, none⟩ (enc d[i]!)).heap[sb]? = w.heap[sb]?
      rw [Below.heap_setCell _ _ _ _ hne, Below.heap_setCell _ _ _ _ hne]; rfl)]
    exact hc
  · rw [World.frozen?_of_block (w := w) (a := ⟨sb, 0, none⟩) (by
      show ((w.drew.setCell ⟨blk, off + i, none⟩ (enc d[j]!)).setCell ⟨blk, off + j, none⟩ (enc d[i]!)).heap[sb]? = w.heap[sb]?
      rw [Below.heap_setCell _ _ _ _ hne, Below.heap_setCell _ _ _ _ hne]; rfl)]
    exact h.free
theorem andU (x M : Nat) (hx : x < 18446744073709551616) (h0 : 0 < M) (hM : M < 9223372036854775808) : ∃ A : Nat, A < M ∧ bits .and .u64 (x : Int) ((M : Int) - 1) = (A : Int) :=
  ⟨x &&& (M - 1), by have := Nat.and_le_right (n := x) (m := M - 1); omega, by rw [show ((M : Int) - 1) = ((M - 1 : Nat) : Int) by omega, bits_and_u64_nat _ _ hx (by omega)]⟩
set_option maxHeartbeats 8000000 in
theorem breakPatterns_any (blk off cap a b n : Nat) (d : Array Int) (w0 w : World) (hA : At blk off w0 w n d) (hlow : blk < w0.heap.size) (hab : a + 12 < b) (hb : b ≤ n) (hsz : n < 2305843009213693952) :
    Calls Try.prog 108 #[.slice (some ⟨blk, off, none⟩) n cap, .int .i64 a, .int .i64 b] w fun e w' =>
      e = .returned (.tuple #[]) ∧ ∃ d', PermIn a b d d' ∧ At blk off w0 w' n d' := by
  obtain ⟨l, hl⟩ : ∃ l, b - a = l := ⟨_, rfl⟩
  obtain ⟨q, hq⟩ : ∃ q, l / 4 = q := ⟨_, rfl⟩
  obtain ⟨m, hm⟩ : ∃ m, a + q * 2 = m := ⟨_, rfl⟩
  have hli : (b : Int) - (a : Int) = (l : Int) := by omega
  have hqi : (l : Int).tdiv 4 = (q : Int) := by rw [Int.tdiv_eq_ediv_of_nonneg (by omega)]; omega
  have hmi : (a : Int) + (q : Int) * 2 = (m : Int) := by omega
  have hl8 : (8 : Int) ≤ (l : Int) := by omega
  have hal : a + l = b := by omega
  have m1 : a + 1 ≤ m := by omega
  have m2 : m + 1 < b := by omega
  have hl0 : 0 < l := by omega
  have hln : l < 2305843009213693952 := by omega
  have HP : Hid (Pr blk off w0 (w.alloc (.cells #[.int .u64 l] 166)) n d w.heap.size) :=
    ⟨hA.alloc hlow _, hlow, hA.step.size, ⟨l, by omega, by go_simp⟩, by go_simp⟩
  have hds : d.size = n := hA.size
  clear hl hq hm hA
  have HDS : Hid (d.size = n) := hds
  clear hds
  go_enter Try.func108, Try.ntmps108
  go_wp2_with (go_at_call 116; refine (nextPower_any l hl0 (by omega) _).mono ?_; rintro e w' ⟨M, rfl, rfl, hM1, hM2⟩)
  have hM0 : 0 < M := by omega
  have hM3 : M < 4611686018427387904 := by omega
  have HM : Hid (M ≤ 2 * l) := hM2
  clear hM2
  go_loopw [9] (fun vi wr => ∃ (t : Nat) (dk : Array Int), vi = .int .i64 t ∧ m ≤ t + 1 ∧ t ≤ m + 2 ∧ Pr blk off w0 wr n dk w.heap.size ∧ PermIn a b d dk) (fun vi _ => (m + 2 - (intOf vi).toNat))
  case atStart => exact ⟨m - 1, d, by congr 1; omega, by omega, by omega, HP.out, permIn_refl d a b⟩
  case round =>
    obtain ⟨t, dk, rfl, ht1, ht2, hP1, hp⟩ := hrel
    have HP1 : Hid (Pr blk off w0 wr n dk w.heap.size) := hP1
    have Hp : Hid (PermIn a b d dk) := hp
    clear hP1 hp HP
    by_cases ht : t ≤ m + 1
    · have hti : (t : Int) ≤ (m : Int) + 1 := by omega
      have htn : t < n := by omega
      go_wp2_with (go_at_call 117; refine (Next_any blk off n w.heap.size dk w0 _ HP1.out).mono ?_; rintro e w' ⟨x, hx, rfl, hP2⟩; obtain ⟨o, ho, hoe⟩ := andU x M hx hM0 (by omega); have ho2 : o < 4611686018427387904 := by omega)
      · have hlo : l ≤ o := by omega
        obtain ⟨y, hy⟩ : ∃ y, a + (o - l) = y := ⟨_, rfl⟩
        have hyi : (a : Int) + ((o : Int) - (l : Int)) = (y : Int) := by omega
        have hyb : y < b := by have := HM.out; omega
        have hay : a ≤ y := by omega
        have hyn : y < n := by omega
        obtain ⟨G, hG, hcw, hfw⟩ := hP2.at_.fam
        have HG : Hid (∀ t, G t = dk[t]!) := hG
        have HP3 : Hid (Pr blk off w0 ((w'.drew.setCell ⟨blk, off + t, none⟩ (enc dk[y]!)).setCell ⟨blk, off + y, none⟩ (enc dk[t]!)) n (swp dk t y) w.heap.size) := hP2.swap htn hyn
        have HQ : Hid (PermIn a b d (swp dk t y)) := permIn_trans _ _ _ a b Hp.out (swp_permIn dk a b t y (by omega) (by omega) hay hyb (by rw [hP2.at_.size]; exact hb))
        clear hG hP2 hy
        by_cases hty : t = y
        · subst hty
          go_region
          all_goals go_wp2
          go_roundw
          case rel =>
            exact ⟨t + 1, _, by go_num, by omega, by omega, (by simp only [HG.out]; exact HP3.out), HQ.out⟩
          case measure => simp [intOf]; omega
        · go_region
          all_goals go_wp2
          go_roundw
          case rel =>
            exact ⟨t + 1, _, by go_num, by omega, by omega, (by simp only [HG.out]; exact HP3.out), HQ.out⟩
          case measure => simp [intOf]; omega
      · have hlo : o < l := by omega
        obtain ⟨y, hy⟩ : ∃ y, a + o = y := ⟨_, rfl⟩
        have hyi : (a : Int) + (o : Int) = (y : Int) := by omega
        have hyb : y < b := by omega
        have hay : a ≤ y := by omega
        have hyn : y < n := by omega
        obtain ⟨G, hG, hcw, hfw⟩ := hP2.at_.fam
        have HG : Hid (∀ t, G t = dk[t]!) := hG
        have HP3 : Hid (Pr blk off w0 ((w'.drew.setCell ⟨blk, off + t, none⟩ (enc dk[y]!)).setCell ⟨blk, off + y, none⟩ (enc dk[t]!)) n (swp dk t y) w.heap.size) := hP2.swap htn hyn
        have HQ : Hid (PermIn a b d (swp dk t y)) := permIn_trans _ _ _ a b Hp.out (swp_permIn dk a b t y (by omega) (by omega) hay hyb (by rw [hP2.at_.size]; exact hb))
        clear hG hP2 hy
        by_cases hty : t = y
        · subst hty
          go_region
          all_goals go_wp2
          go_roundw
          case rel =>
            exact ⟨t + 1, _, by go_num, by omega, by omega, (by simp only [HG.out]; exact HP3.out), HQ.out⟩
          case measure => simp [intOf]; omega
        · go_region
          all_goals go_wp2
          go_roundw
          case rel =>
            exact ⟨t + 1, _, by go_num, by omega, by omega, (by simp only [HG.out]; exact HP3.out), HQ.out⟩
          case measure => simp [intOf]; omega
    · go_wp2
      go_end0
      exact ⟨rfl, dk, Hp.out, HP1.out.at_⟩
end SrtI
end Go.Proofs.Ytpmmpdkeahmdiaa

/- The library's sort at int: the whole. -/
namespace Go.Proofs.Ytpmmpdkeahmdiaa
open Go.RowKit Go.Sort
set_option maxRecDepth 100000
namespace SrtI

theorem insertionSort_at {blk off cap a b n : Nat} {d : Array Int} {w0 w : World} (hA : At blk off w0 w n d) (hab : a ≤ b) (hb : b ≤ n) (hsz : n < 2305843009213693952) :
    Calls Try.prog 106 #[.slice (some ⟨blk, off, none⟩) n cap, .int .i64 a, .int .i64 b] w fun e w' =>
      e = .returned (.tuple #[]) ∧ At blk off w0 w' n (Sort.insertionSort ltInt d a b) := by
  obtain ⟨h1, rfl, h3⟩ := hA
  exact (insertionSort_any blk off cap a b d w h1 hab hb (by omega)).mono fun e w' h => ⟨h.1, (At.mk h1 rfl h3).trans h.2⟩
theorem reverseRange_at {blk off cap a b n : Nat} {d : Array Int} {w0 w : World} (hA : At blk off w0 w n d) (hab : a < b) (hb : b ≤ n) (hsz : n < 2305843009213693952) :
    Calls Try.prog 110 #[.slice (some ⟨blk, off, none⟩) n cap, .int .i64 a, .int .i64 b] w fun e w' =>
      e = .returned (.tuple #[]) ∧ At blk off w0 w' n (reverseRange d a b) := by
  obtain ⟨h1, rfl, h3⟩ := hA
  exact (reverseRange_any blk off cap a b d w h1 hab hb (by omega)).mono fun e w' h => ⟨h.1, (At.mk h1 rfl h3).trans h.2⟩

/-- In the midst of sorting d from a to b: what is left to sort is dk from a' to b'. -/
structure Mid (blk off n : Nat) (w0 : World) (a b : Nat) (d : Array Int) (a' b' : Nat) (dk : Array Int) (wr : World) : Prop where
  ab : a' ≤ b'
  bn : b' ≤ n
  below : Go.Sort.Below ltInt a' b' dk
  at_ : At blk off w0 wr n dk
  then_ : ∀ R, PermIn a' b' dk R → SortedIn ltInt a' b' R → PermIn a b d R ∧ SortedIn ltInt a b R
theorem Mid.sz {blk off n : Nat} {w0 : World} {a b : Nat} {d : Array Int} {a' b' : Nat} {dk : Array Int} {wr : World} (h : Mid blk off n w0 a b d a' b' dk wr) : b' ≤ dk.size := by rw [h.at_.size]; exact h.bn
theorem Mid.step {blk off n : Nat} {w0 : World} {a b : Nat} {d : Array Int} {a' b' : Nat} {dk d2 : Array Int} {wr w2 : World} (h : Mid blk off n w0 a b d a' b' dk wr) (hp : PermIn a' b' dk d2) (hA : At blk off w0 w2 n d2) :
    Mid blk off n w0 a b d a' b' d2 w2 := ⟨h.ab, h.bn, h.below.perm h.sz hp, hA, fun R h1 h2 => h.then_ R (permIn_trans _ _ _ _ _ hp h1) h2⟩
theorem Mid.same {blk off n : Nat} {w0 : World} {a b : Nat} {d : Array Int} {a' b' : Nat} {dk : Array Int} {wr w2 : World} (h : Mid blk off n w0 a b d a' b' dk wr) (hA : At blk off w0 w2 n dk) :
    Mid blk off n w0 a b d a' b' dk w2 := h.step (permIn_refl _ _ _) hA
/-- What the call of a sort says. -/
def Sorts (blk off n a b : Nat) (d : Array Int) (w0 : World) (e : Ending) (w' : World) : Prop := e = .returned (.tuple #[]) ∧ ∃ R, PermIn a b d R ∧ SortedIn ltInt a b R ∧ At blk off w0 w' n R
theorem Mid.done {blk off n : Nat} {w0 : World} {a b : Nat} {d : Array Int} {a' b' : Nat} {dk d2 : Array Int} {wr w2 : World} (h : Mid blk off n w0 a b d a' b' dk wr) (hp : PermIn a' b' dk d2 ∧ SortedIn ltInt a' b' d2) (hA : At blk off w0 w2 n d2) :
    Sorts blk off n a b d w0 (.returned (.tuple #[])) w2 := ⟨rfl, d2, (h.then_ d2 hp.1 hp.2).1, (h.then_ d2 hp.1 hp.2).2, hA⟩
theorem Mid.insert {blk off n : Nat} {w0 : World} {a b : Nat} {d : Array Int} {a' b' : Nat} {dk : Array Int} {wr w2 : World} (h : Mid blk off n w0 a b d a' b' dk wr) (hA : At blk off w0 w2 n (Sort.insertionSort ltInt dk a' b')) :
    Sorts blk off n a b d w0 (.returned (.tuple #[])) w2 := h.done (insertionSort_holds swo_ltInt dk a' b' h.ab h.sz) hA
theorem Mid.heap {blk off n : Nat} {w0 : World} {a b : Nat} {d : Array Int} {a' b' : Nat} {dk : Array Int} {wr w2 : World} (h : Mid blk off n w0 a b d a' b' dk wr) (hA : At blk off w0 w2 n (heapSort ltInt dk a' b')) :
    Sorts blk off n a b d w0 (.returned (.tuple #[])) w2 := h.done (heapSort_holds swo_ltInt dk a' b' h.ab h.sz) hA
/-- Behind the partition into equal and greater. -/
theorem Mid.eqs {blk off n : Nat} {w0 : World} {a b : Nat} {d : Array Int} {a' b' p : Nat} {dk : Array Int} {wr w2 : World} (h : Mid blk off n w0 a b d a' b' dk wr) (ha : 0 < a') (hp1 : a' ≤ p) (hp2 : p < b') (hl : ltInt dk[a' - 1]! dk[p]! = false)
    (hA : At blk off w0 w2 n (partitionEqual ltInt dk a' b' p).2) : a' < (partitionEqual ltInt dk a' b' p).1 ∧ (partitionEqual ltInt dk a' b' p).1 ≤ b' ∧ Mid blk off n w0 a b d (partitionEqual ltInt dk a' b' p).1 b' (partitionEqual ltInt dk a' b' p).2 w2 := by
  obtain ⟨h1, h2, h3, h4, h5⟩ := round_eq swo_ltInt (partitionEqual_holds ltInt) ha hp1 hp2 h.sz h.below hl (mid := (partitionEqual ltInt dk a' b' p).1) (d4 := (partitionEqual ltInt dk a' b' p).2) rfl
  exact ⟨h1, h2, ⟨h2, h.bn, h4, hA, fun R r1 r2 => h.then_ R (h5 R r1 r2).1 (h5 R r1 r2).2⟩⟩
/-- Behind the partition. -/
structure Parts (blk off n : Nat) (w0 : World) (a b : Nat) (d : Array Int) (a' b' m : Nat) (d4 : Array Int) : Prop where
  lo : a' ≤ m
  hi : m < b'
  bn : b' ≤ n
  bl : Go.Sort.Below ltInt a' m d4
  br : Go.Sort.Below ltInt (m + 1) b' d4
  left : ∀ L w2, PermIn a' m d4 L → SortedIn ltInt a' m L → At blk off w0 w2 n L → Mid blk off n w0 a b d (m + 1) b' L w2
  right : ∀ L w2, PermIn (m + 1) b' d4 L → SortedIn ltInt (m + 1) b' L → At blk off w0 w2 n L → Mid blk off n w0 a b d a' m L w2
theorem Mid.parts {blk off n : Nat} {w0 : World} {a b : Nat} {d : Array Int} {a' b' p : Nat} {dk : Array Int} {wr : World} (h : Mid blk off n w0 a b d a' b' dk wr) (hp1 : a' ≤ p) (hp2 : p < b') :
    Parts blk off n w0 a b d a' b' (partition ltInt dk a' b' p).1 (partition ltInt dk a' b' p).2.2 := by
  obtain ⟨h1, h2, h3, h4, h5, h6, h7⟩ := round_part swo_ltInt (partition_holds ltInt) hp1 hp2 h.sz h.below (mid := (partition ltInt dk a' b' p).1) (ap := (partition ltInt dk a' b' p).2.1) (d4 := (partition ltInt dk a' b' p).2.2) rfl
  exact ⟨h1, h2, h.bn, h4, h5, fun L w2 l1 l2 l3 => ⟨by omega, h.bn, (h6 L l1 l2).1, l3, fun R r1 r2 => h.then_ R ((h6 L l1 l2).2 R r1 r2).1 ((h6 L l1 l2).2 R r1 r2).2⟩,
    fun L w2 l1 l2 l3 => ⟨by omega, by have := h.bn; omega, (h7 L l1 l2).1, l3, fun R r1 r2 => h.then_ R ((h7 L l1 l2).2 R r1 r2).1 ((h7 L l1 l2).2 R r1 r2).2⟩⟩

set_option maxHeartbeats 32000000 in
theorem pdq_any (N : Nat) : ∀ (blk off cap a b n lim : Nat) (d : Array Int) (w0 w : World), b - a ≤ N → At blk off w0 w n d → blk < w0.heap.size → a ≤ b → b ≤ n → n < 2305843009213693952 → lim < 4611686018427387904 → Go.Sort.Below ltInt a b d →
    Calls Try.prog 93 #[.slice (some ⟨blk, off, none⟩) n cap, .int .i64 a, .int .i64 b, .int .i64 lim] w (Sorts blk off n a b d w0) := by
  induction N using Nat.strongRecOn with
  | _ N ih =>
  intro blk off cap a b n lim d w0 w hN hA hlow hab hb hsz hlim hBel
  have HIH : Hid (∀ (a b lim : Nat) (d : Array Int) (w : World), b - a < N → At blk off w0 w n d → a ≤ b → b ≤ n → lim < 4611686018427387904 → Go.Sort.Below ltInt a b d →
      Calls Try.prog 93 #[.slice (some ⟨blk, off, none⟩) n cap, .int .i64 a, .int .i64 b, .int .i64 lim] w (Sorts blk off n a b d w0)) :=
    fun a b lim d w h1 h2 h3 h4 h5 h6 => ih (b - a) h1 blk off cap a b n lim d w0 w (Nat.le_refl _) h2 hlow h3 h4 hsz h5 h6
  have HM : Hid (Mid blk off n w0 a b d a b d w) := ⟨hab, hb, hBel, hA, fun R h1 h2 => ⟨h1, h2⟩⟩
  clear ih hA hBel
  go_enter Try.func93, Try.ntmps93
  go_wp2
  go_loopw [1, 2, 3, 8, 9] (fun s1 s2 s3 s8 s9 wr => ∃ (a' b' l : Nat) (wb wp : Bool) (dk : Array Int), s1 = .int .i64 a' ∧ s2 = .int .i64 b' ∧ s3 = .int .i64 l ∧ s8 = .bool wb ∧ s9 = .bool wp ∧ b' - a' ≤ N ∧ l < 4611686018427387904 ∧ Mid blk off n w0 a b d a' b' dk wr) (fun s1 s2 _ _ _ _ => (intOf s2 - intOf s1).toNat)
  case atStart => exact ⟨a, b, lim, true, true, d, rfl, rfl, rfl, rfl, rfl, hN, hlim, HM.out⟩
  case round =>
    clear HM
    obtain ⟨a', b', l, wb, wp, dk, rfl, rfl, rfl, rfl, rfl, hN', hl, hM⟩ := hrel
    have hab' := hM.ab
    have hbn' := hM.bn
    have HM : Hid (Mid blk off n w0 a b d a' b' dk wr) := hM
    clear hM
    by_cases h12 : b' - a' ≤ 12
    · have h12z : (b' : Int) - (a' : Int) ≤ 12 := by omega
      go_wp2_with (go_at_call 106; refine (insertionSort_at HM.out.at_ hab' hbn' hsz).mono ?_; rintro e w1 ⟨rfl, hw1⟩)
      go_returns
      exact HM.out.insert hw1
    · have h12z : ¬ ((b' : Int) - (a' : Int) ≤ 12) := by omega
      by_cases hl0 : l = 0
      · subst hl0
        go_wp2_with (go_at_call 107; refine (heapSort_any blk off cap a' b' n dk w0 _ HM.out.at_ (by omega) hbn' hsz).mono ?_; rintro e w1 ⟨rfl, hw1⟩)
        go_returns
        exact HM.out.heap hw1
      · have hl0z : ¬ ((l : Int) = 0) := by omega
        go_upto_if 35 with fail
        go_cut [3] from 19 (fun s3 wc => ∃ (l1 : Nat) (d1 : Array Int), s3 = .int .i64 l1 ∧ l1 < 4611686018427387904 ∧ Mid blk off n w0 a b d a' b' d1 wc)
        case first =>
          cases wb
          · go_wp2_with (go_at_call 108; refine (breakPatterns_any blk off cap a' b' n dk w0 _ HM.out.at_ hlow (by omega) hbn' hsz).mono ?_; rintro e w1 ⟨rfl, d1, hp1, hw1⟩)
            go_meet
            case rel => exact ⟨l - 1, d1, by congr 1; omega, by omega, HM.out.step hp1 hw1⟩
          · go_wp2_with fail
            go_meet
            case rel => exact ⟨l, dk, rfl, hl, HM.out⟩
        case rest =>
          clear HM
          obtain ⟨l1, d1, rfl, hl1, hM1⟩ := hcut
          have HM1 : Hid (Mid blk off n w0 a b d a' b' d1 wc) := hM1
          clear hM1
          go_upto_if 50 with (go_at_call 109; refine (choosePivot_any blk off cap a' b' n d1 w0 _ HM1.out.at_ hlow (by omega) hbn' hsz).mono ?_; rintro e w2 ⟨p, h, rfl, hp1, hp2, hw2⟩)
          have HM2 : Hid (Mid blk off n w0 a b d a' b' d1 w2) := HM1.out.same hw2
          clear hw2 HM1
          go_cut [11, 12] from 19 (fun s11 s12 wc => ∃ (p : Nat) (h : Int) (d2 : Array Int), s11 = .int .i64 p ∧ s12 = .int .i64 h ∧ a' ≤ p ∧ p < b' ∧ Mid blk off n w0 a b d a' b' d2 wc)
          case first =>
            by_cases hh : h = 2
            · subst hh
              go_wp2_with (go_at_call 110; refine (reverseRange_at HM2.out.at_ (by omega) hbn' hsz).mono ?_; rintro e w3 ⟨rfl, hw3⟩)
              go_meet
              case rel => exact ⟨(b' - 1) - (p - a'), 1, _, by congr 1; omega, rfl, by omega, by omega, HM2.out.step (reverseRange_holds d1 a' b' hab' HM2.out.sz) hw3⟩
            · have hhb : (h == 2) = false := by simp [hh]
              go_wp2_with fail
              go_meet
              case rel => exact ⟨p, h, d1, rfl, rfl, hp1, hp2, HM2.out⟩
          case rest =>
            clear HM2 hp1 hp2
            obtain ⟨p, h, d2, rfl, rfl, hp1, hp2, hM2⟩ := hcut
            have HM2 : Hid (Mid blk off n w0 a b d a' b' d2 wc) := hM2
            clear hM2
            go_upto_region 15 with fail
            go_cut [68] from 19 (fun s68 wx => ∃ t : Bool, s68 = .bool t ∧ wx = wc)
            case first =>
              cases wb <;> cases wp <;> (go_wp2_with fail
                                         go_meet
                                         exact ⟨_, rfl, rfl⟩)
            case rest =>
              obtain ⟨t, rfl, rfl⟩ := hcut
              go_upto_if 68 with fail
              go_cut [] from 19 (fun wx => ∃ d3 : Array Int, Mid blk off n w0 a b d a' b' d3 wx)
              case first =>
                cases t
                · go_wp2_with fail
                  go_meet
                  case rel => exact ⟨d2, HM2.out⟩
                · obtain ⟨pi, hpi⟩ : ∃ pi, partialInsertionSort ltInt d2 a' b' = pi := ⟨_, rfl⟩
                  have HPI : Hid (PermIn a' b' d2 pi.1 ∧ (pi.2 = true → SortedIn ltInt a' b' pi.1)) := by
                    show _ ∧ _
                    rw [← hpi]
                    exact partialInsertionSort_holds swo_ltInt d2 a' b' (by omega) HM2.out.sz HM2.out.below
                  have hc := fun w hA => partialInsertionSort_any blk off cap a' b' n d2 w0 w hA (by omega) hbn' hsz
                  rw [hpi] at hc
                  obtain ⟨p1, pb⟩ := pi
                  have HC : Hid (∀ w, At blk off w0 w n d2 → Calls Try.prog 111 #[.slice (some ⟨blk, off, none⟩) n cap, .int .i64 a', .int .i64 b'] w fun e w' => e = .returned (.bool pb) ∧ At blk off w0 w' n p1) := hc
                  clear hc hpi
                  cases pb
                  · go_wp2_with (go_at_call 111; refine (HC.out _ HM2.out.at_).mono ?_; rintro e w4 ⟨rfl, hw4⟩)
                    go_meet
                    case rel => exact ⟨p1, HM2.out.step HPI.out.1 hw4⟩
                  · go_wp2_with (go_at_call 111; refine (HC.out _ HM2.out.at_).mono ?_; rintro e w4 ⟨rfl, hw4⟩)
                    go_returns
                    exact HM2.out.done ⟨HPI.out.1, HPI.out.2 (by first | trivial | exact rfl)⟩ hw4
              case rest =>
                clear HM2
                obtain ⟨d3, hM3⟩ := hcut
                obtain ⟨G, hG, hcw, hfw⟩ := hM3.at_.fam
                have HG : Hid (∀ t, G t = d3[t]!) := hG
                have HM3 : Hid (Mid blk off n w0 a b d a' b' d3 wc) := hM3
                clear hM3 hG
                have hpn : p < n := by omega
                by_cases ha0 : 0 < a'
                · have ha0z : (0 : Int) < (a' : Int) := by omega
                  have han : a' - 1 < n := by omega
                  go_wp2_with fail
                  go_quiet (first | (go_at_call 112; refine Calls.quiet_of_same (Less_any _ _ _)))
                  have HM4 : Hid (Mid blk off n w0 a b d a' b' d3 (wc.drewN nq)) := HM3.out.same (HM3.out.at_.drewN _)
                  cases hlt : ltInt (G (a' - 1)) (G p)
                  · go_wp2_with (go_at_call 113; refine (partitionEqual_any blk off cap a' b' p n d3 w0 _ HM4.out.at_ hp1 hp2 hbn' hsz).mono ?_; rintro e w5 ⟨rfl, hw5⟩)
                    obtain ⟨q1, q2, hq⟩ := HM4.out.eqs ha0 hp1 hp2 (by rw [← HG.out, ← HG.out, hlt]) hw5
                    go_roundw
                    case rel => exact ⟨_, b', l1, wb, wp, _, rfl, rfl, rfl, rfl, rfl, by omega, hl1, hq⟩
                    case measure => simp [intOf]; omega
                  · skip
                    obtain ⟨m, hm⟩ : ∃ m, (partition ltInt d3 a' b' p).1 = m := ⟨_, rfl⟩
                    obtain ⟨d4, hd4⟩ : ∃ d4, (partition ltInt d3 a' b' p).2.2 = d4 := ⟨_, rfl⟩
                    have hP := HM4.out.parts hp1 hp2
                    have hc := fun w hA => partition_any blk off cap a' b' p n d3 w0 w hA hp1 hp2 hbn' hsz
                    rw [hm, hd4] at hP hc
                    have HC : Hid (∀ w, At blk off w0 w n d3 → Calls Try.prog 114 #[.slice (some ⟨blk, off, none⟩) n cap, .int .i64 a', .int .i64 b', .int .i64 p] w fun e w' => ∃ ap : Bool, e = .returned (.tuple #[.int .i64 m, .bool ap]) ∧ At blk off w0 w' n d4) := hc
                    have HP : Hid (Parts blk off n w0 a b d a' b' m d4) := hP
                    have hm1 := hP.lo
                    have hm2 := hP.hi
                    clear hc hP hm hd4
                    obtain ⟨mm, hmm⟩ : ∃ mm, m + 1 = mm := ⟨_, rfl⟩
                    have hmmi : (m : Int) + 1 = (mm : Int) := by omega
                    have HMM : Hid (m + 1 = mm) := hmm
                    clear hmm
                    go_upto_if 113 with (go_at_call 114; refine (HC.out _ HM4.out.at_).mono ?_; rintro e w5 ⟨ap, rfl, hw5⟩)
                    have HW5 : Hid (At blk off w0 w5 n d4) := hw5
                    clear hw5
                    by_cases hlr : (m : Int) - (a' : Int) < (b' : Int) - (m : Int)
                    · go_wp2_with (go_at_call 93; refine (HIH.out a' m l1 d4 _ (by omega) HW5.out hm1 (by omega) hl1 HP.out.bl).mono ?_; rintro e w6 ⟨rfl, L, hL1, hL2, hL3⟩)
                      go_roundw
                      case rel => exact ⟨mm, b', l1, _, _, L, rfl, rfl, rfl, rfl, rfl, by have := HMM.out; omega, hl1, by rw [← HMM.out]; exact HP.out.left L _ hL1 hL2 hL3⟩
                      case measure => simp [intOf]; have := HMM.out; omega
                    · go_wp2_with (go_at_call 93; refine (HIH.out mm b' l1 d4 _ (by have := HMM.out; omega) HW5.out (by have := HMM.out; omega) (by omega) hl1 (by rw [← HMM.out]; exact HP.out.br)).mono ?_; rintro e w6 ⟨rfl, L, hL1, hL2, hL3⟩)
                      go_roundw
                      case rel => exact ⟨a', m, l1, _, _, L, rfl, rfl, rfl, rfl, rfl, by omega, hl1, HP.out.right L _ (by rw [HMM.out]; exact hL1) (by rw [HMM.out]; exact hL2) hL3⟩
                      case measure => simp [intOf]; omega
                · have ha0z : decide ((0 : Int) < (a' : Int)) = false := by simp; omega
                  go_wp2_with fail
                  go_quiet (first | (go_at_call 112; refine Calls.quiet_of_same (Less_any _ _ _)))
                  have HM4 : Hid (Mid blk off n w0 a b d a' b' d3 (wc.drewN nq)) := HM3.out.same (HM3.out.at_.drewN _)
                  obtain ⟨m, hm⟩ : ∃ m, (partition ltInt d3 a' b' p).1 = m := ⟨_, rfl⟩
                  obtain ⟨d4, hd4⟩ : ∃ d4, (partition ltInt d3 a' b' p).2.2 = d4 := ⟨_, rfl⟩
                  have hP := HM4.out.parts hp1 hp2
                  have hc := fun w hA => partition_any blk off cap a' b' p n d3 w0 w hA hp1 hp2 hbn' hsz
                  rw [hm, hd4] at hP hc
                  have HC : Hid (∀ w, At blk off w0 w n d3 → Calls Try.prog 114 #[.slice (some ⟨blk, off, none⟩) n cap, .int .i64 a', .int .i64 b', .int .i64 p] w fun e w' => ∃ ap : Bool, e = .returned (.tuple #[.int .i64 m, .bool ap]) ∧ At blk off w0 w' n d4) := hc
                  have HP : Hid (Parts blk off n w0 a b d a' b' m d4) := hP
                  have hm1 := hP.lo
                  have hm2 := hP.hi
                  clear hc hP hm hd4
                  obtain ⟨mm, hmm⟩ : ∃ mm, m + 1 = mm := ⟨_, rfl⟩
                  have hmmi : (m : Int) + 1 = (mm : Int) := by omega
                  have HMM : Hid (m + 1 = mm) := hmm
                  clear hmm
                  go_upto_if 113 with (go_at_call 114; refine (HC.out _ HM4.out.at_).mono ?_; rintro e w5 ⟨ap, rfl, hw5⟩)
                  have HW5 : Hid (At blk off w0 w5 n d4) := hw5
                  clear hw5
                  by_cases hlr : (m : Int) - (a' : Int) < (b' : Int) - (m : Int)
                  · go_wp2_with (go_at_call 93; refine (HIH.out a' m l1 d4 _ (by omega) HW5.out hm1 (by omega) hl1 HP.out.bl).mono ?_; rintro e w6 ⟨rfl, L, hL1, hL2, hL3⟩)
                    go_roundw
                    case rel => exact ⟨mm, b', l1, _, _, L, rfl, rfl, rfl, rfl, rfl, by have := HMM.out; omega, hl1, by rw [← HMM.out]; exact HP.out.left L _ hL1 hL2 hL3⟩
                    case measure => simp [intOf]; have := HMM.out; omega
                  · go_wp2_with (go_at_call 93; refine (HIH.out mm b' l1 d4 _ (by have := HMM.out; omega) HW5.out (by have := HMM.out; omega) (by omega) hl1 (by rw [← HMM.out]; exact HP.out.br)).mono ?_; rintro e w6 ⟨rfl, L, hL1, hL2, hL3⟩)
                    go_roundw
                    case rel => exact ⟨a', m, l1, _, _, L, rfl, rfl, rfl, rfl, rfl, by omega, hl1, HP.out.right L _ (by rw [HMM.out]; exact hL1) (by rw [HMM.out]; exact hL2) hL3⟩
                    case measure => simp [intOf]; omega
end SrtI
end Go.Proofs.Ytpmmpdkeahmdiaa

/- The library's sort at int: slices.Sort. -/
namespace Go.Proofs.Ytpmmpdkeahmdiaa
open Go.RowKit Go.Sort
set_option maxRecDepth 100000
namespace SrtI

/-- The numbers in rising order. -/
def sorted (xs : List Int) : List Int := xs.mergeSort (fun x y => decide (x ≤ y))
theorem sorts_sorted {blk off n : Nat} {d : Array Int} {w0 w w' : World} {e : Ending} (hA : At blk off w0 w n d) (h : Sorts blk off n 0 n d w0 e w') : e = .returned (.tuple #[]) ∧ At blk off w0 w' n (sorted d.toList).toArray := by
  obtain ⟨h1, R, h2, h3, h4⟩ := h
  refine ⟨h1, ?_⟩
  have hs := hA.size
  subst hs
  have hu := sorted_unique_holds swo_ltInt (fun x y h1 h2 => by simp only [ltInt, decide_eq_false_iff_not] at h1 h2; omega) d R h2 h3
  have hf : (fun x y : Int => !ltInt y x) = (fun x y => decide (x ≤ y)) := by
    funext x y
    by_cases hxy : x ≤ y
    · have : ¬ y < x := by omega
      simp [ltInt, hxy, this]
    · have : y < x := by omega
      simp [ltInt, hxy, this]
  rw [hf] at hu
  have : R = (sorted d.toList).toArray := by
    apply Array.ext'
    rw [hu]
    rfl
  rw [← this]
  exact h4
set_option maxHeartbeats 4000000 in
theorem Sort_any (blk off cap n : Nat) (d : Array Int) (w0 w : World) (hA : At blk off w0 w n d) (hlow : blk < w0.heap.size) (hsz : n < 2305843009213693952) :
    Calls Try.prog 85 #[.slice (some ⟨blk, off, none⟩) n cap] w fun e w' => e = .returned (.tuple #[]) ∧ At blk off w0 w' n (sorted d.toList).toArray := by
  have HA : Hid (At blk off w0 w n d) := hA
  have hLen : ∀ w, Calls Try.prog 90 #[.int .u64 (n : Int)] w fun e w' => e = .returned (.int .i64 (bitsLen n : Nat)) ∧ w' = w := fun w => by
    have h := bits_Len (n : Int) w (by omega) (by omega)
    rwa [Int.toNat_natCast, bitLen_eq _ (by omega)] at h
  have HL : Hid (∀ w, Calls Try.prog 90 #[.int .u64 (n : Int)] w fun e w' => e = .returned (.int .i64 (bitsLen n : Nat)) ∧ w' = w) := hLen
  have hk : bitsLen n ≤ 62 := (bitsLen_le_iff n 62).2 (by omega)
  have HP : Hid (Calls Try.prog 93 #[.slice (some ⟨blk, off, none⟩) n cap, .int .i64 ((0 : Nat) : Int), .int .i64 (n : Int), .int .i64 (bitsLen n : Nat)] w (Sorts blk off n 0 n d w0)) :=
    pdq_any n blk off cap 0 n n (bitsLen n) d w0 w (by omega) hA hlow (Nat.zero_le _) (Nat.le_refl _) hsz (by omega) (.inl rfl)
  clear hA hLen
  go_enter Try.func85, Try.ntmps85
  go_wp2_with (first | (go_at_call 90; refine (HL.out _).mono ?_; rintro e w' ⟨rfl, rfl⟩) | (go_at_call 93; refine HP.out.mono ?_; rintro e w' hS; obtain ⟨rfl, hA'⟩ := sorts_sorted HA.out hS))
  go_end0
  exact ⟨rfl, hA'⟩
set_option maxHeartbeats 4000000 in
theorem insertion_nil (w : World) : Calls Try.prog 106 #[.slice none 0 0, .int .i64 0, .int .i64 0] w fun e w' => e = .returned (.tuple #[]) ∧ w' = w := by
  go_enter Try.func106, Try.ntmps106
  go_wp2
  refine wp_loop_rounds 1 ?_
  rw [rounds_succ]
  go_wp2
  go_end0
  exact ⟨rfl, rfl⟩
set_option maxHeartbeats 4000000 in
theorem pdq_nil (w : World) : Calls Try.prog 93 #[.slice none 0 0, .int .i64 0, .int .i64 0, .int .i64 0] w fun e w' => e = .returned (.tuple #[]) ∧ w' = w := by
  go_enter Try.func93, Try.ntmps93
  go_wp2
  refine wp_loop_rounds 1 ?_
  rw [rounds_succ]
  go_wp2_with (go_at_call 106; refine (insertion_nil _).mono ?_; rintro e w' ⟨rfl, rfl⟩)
  go_returns
  exact ⟨rfl, rfl⟩
set_option maxHeartbeats 4000000 in
theorem Sort_nil (w : World) : Calls Try.prog 85 #[.slice none 0 0] w fun e w' => e = .returned (.tuple #[]) ∧ w' = w := by
  have hLen : ∀ w, Calls Try.prog 90 #[.int .u64 0] w fun e w' => e = .returned (.int .i64 0) ∧ w' = w := fun w => bits_Len 0 w (by omega) (by omega)
  go_enter Try.func85, Try.ntmps85
  go_wp2_with (first | (go_at_call 90; refine (hLen _).mono ?_; rintro e w' ⟨rfl, rfl⟩) | (go_at_call 93; refine (pdq_nil _).mono ?_; rintro e w' ⟨rfl, rfl⟩))
  go_end0
  exact ⟨rfl, rfl⟩
end SrtI
end Go.Proofs.Ytpmmpdkeahmdiaa
