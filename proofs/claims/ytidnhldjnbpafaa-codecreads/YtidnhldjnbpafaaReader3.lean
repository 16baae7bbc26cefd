/- codec's readers: Bytes; and Read. -/
import Derived.Test.YtidnhldjnbpafaaReader2
import Derived.Test.YtidnhldjnbpafaaPut
namespace Go.Proofs.Ytidnhldjnbpafaa
open Go.RowKit
set_option maxRecDepth 100000

theorem row_take {N : Nat} {w : World} {ao : Option Addr} {len cap n : Nat} {xs : List Nat} (h : Row N w (.slice ao len cap) xs) (hn : n ≤ xs.length) : Row N w (.slice ao n cap) (xs.take n) := by
  obtain ⟨ao', cap', e, hcap, hno, hc⟩ := h
  simp only [Value.slice.injEq] at e
  obtain ⟨rfl, rfl, rfl⟩ := e
  have hl : (xs.take n).length = n := by rw [List.length_take]; omega
  refine ⟨_, _, by rw [hl], by rw [hl]; omega, hno, fun h0 => ?_⟩
  rw [hl] at h0
  obtain ⟨b, off, e, hN, hd⟩ := hc (by omega)
  refine ⟨b, off, e, hN, fun i hi => ?_⟩
  rw [hl] at hi
  rw [hd i (by omega)]
  simp [List.getD_eq_getElem?_getD, hi]

def mostN (m : Int) : Nat := (max m 0).toNat
def bytesR (xs : List Nat) (e : Int) (m : Int) : List Nat × List Nat × Int :=
  if e ≠ 0 then ([], xs, e)
  else if (front xs (mostN m)).2.2 ≠ 0 then ([], xs, ((front xs (mostN m)).2.2 : Int))
  else if xs.length - (front xs (mostN m)).2.1 < (front xs (mostN m)).1 then ([], xs, 20)
  else ((xs.drop (front xs (mostN m)).2.1).take (front xs (mostN m)).1, xs.drop ((front xs (mostN m)).2.1 + (front xs (mostN m)).1), 0)

set_option maxHeartbeats 4000000 in
theorem Bytes_any (rb : Nat) (xs : List Nat) (e : Int) (m : Int) (w : World) (h : Rd w rb xs e) (hm : -9223372036854775808 ≤ m) (hm2 : m ≤ 9223372036854775807) :
    Calls Try.prog 20 #[.pointer (some ⟨rb, 0, none⟩), .int .i64 m] w fun x w' => ∃ v, x = .returned v ∧ Bytes w.heap.size w' v (bytesR xs e m).1 ∧ Rd w' rb (bytesR xs e m).2.1 (bytesR xs e m).2.2 ∧ But rb w w' := by
  have HR : Hid (Rd w rb xs e) := h
  obtain ⟨v, h1, h2, h3, h4⟩ := h
  obtain ⟨c0, c1, f0, f1⟩ := rd_cells h1
  have HD : Hid (w.heap[rb]? = some (.cells #[v, .int .i64 e] 60 (0, 0)) ∧ Row rb w v xs ∧ (∀ x ∈ xs, x < 256)) := ⟨h1, h2, h3⟩
  have hff := front_facts xs (mostN m) h3
  have hcall := frontUint_any rb v xs (mostN m) w h2 h3 h4
  have hlt := (Array.getElem?_eq_some_iff.1 h1).1
  have hcase : (m < 0 ∧ ((mostN m : Nat) : Int) = 0) ∨ (0 ≤ m ∧ ((mostN m : Nat) : Int) = m) := by unfold mostN; omega
  have hmn : mostN m < 9223372036854775808 := by unfold mostN; omega
  clear h1 h3
  by_cases he : e = 0
  · subst he
    by_cases hz : (front xs (mostN m)).2.2 = 0
    · obtain ⟨g1, g2, g3, g4, g5, _⟩ := hff.1 hz
      have HU : Hid (bytesR xs 0 m = if xs.length - (front xs (mostN m)).2.1 < (front xs (mostN m)).1 then ([], xs, 20)
          else ((xs.drop (front xs (mostN m)).2.1).take (front xs (mostN m)).1, xs.drop ((front xs (mostN m)).2.1 + (front xs (mostN m)).1), 0)) := by
        show _ = _; rw [bytesR, if_neg (by simp), if_neg (by simp [hz])]
      rw [hz] at hcall
      generalize hf1 : (front xs (mostN m)).1 = n at hcall HU g4 g5
      generalize hf2 : (front xs (mostN m)).2.1 = k at hcall HU g1 g2 g3
      have HC : Hid (Calls Try.prog 30 #[v, .int .u64 (mostN m : Int)] w fun e w' => e = .returned (.tuple #[.int .u64 (n : Int), .int .i64 (k : Int), .int .i64 0]) ∧ w' = w) := hcall
      clear hff hcall hf1 hf2 hz
      obtain ⟨ao, cap, rfl, hcap, hno, hc⟩ := h2
      obtain ⟨b, off, rfl, hN, hd⟩ := hc (by omega)
      have hkc : k ≤ cap := by omega
      clear hc hd hno
      by_cases hs : xs.length - k < n
      · have hV := HU.out
        rw [if_pos hs] at hV
        have HV : Hid (bytesR xs 0 m = ([], xs, 20)) := hV
        clear hV
        clear HU
        rcases hcase with ⟨hm0, hmm⟩ | ⟨hm0, hmm⟩
        all_goals
          rw [hmm] at HC
          clear hmm
          go_enter Try.func20, Try.ntmps20
          go_wp2_with (first
            | (go_at_call 30; refine HC.out.mono ?_; rintro x w' ⟨rfl, rfl⟩)
            | (go_at_call 21; refine (Fail_any rb xs 0 20 _ HR.out).mono ?_; rintro x w' ⟨rfl, hrd, hbut⟩))
          go_ret
          rw [HV.out]
          exact ⟨_, rfl, Bytes.nil _ _, hrd, hbut⟩
      · have hV := HU.out
        rw [if_neg hs] at hV
        have HV : Hid (bytesR xs 0 m = ((xs.drop k).take n, xs.drop (k + n), 0)) := hV
        clear hV
        have hnl : n ≤ xs.length - k := by omega
        have HW : Hid (Row rb w (.slice (if cap = k then some ⟨b, off, none⟩ else some ⟨b, off + k, none⟩) (k + n - k) (cap - k)) ((xs.drop k).take n)) := by
          show Row _ _ _ _
          rw [Nat.add_sub_cancel_left]
          exact row_take (row_drop HD.out.2.1 g2) (by rw [List.length_drop]; omega)
        have HL : Hid ((([] : List Nat).length + ((xs.drop k).take n).length ≤ 140737488355328)) := by show _ ≤ _; simp; omega
        clear HU hs
        rcases hcase with ⟨hm0, hmm⟩ | ⟨hm0, hmm⟩
        all_goals
          rw [hmm] at HC
          clear hmm
          go_enter Try.func20, Try.ntmps20
          go_wp2_with fail
          refine HC.out.mono ?_
          rintro x w' ⟨rfl, rfl⟩
          clear HC
          go_wp2_with (at_builtin; refine append_row (by rfl) _ _ rfl w'.heap.size rb _ _ [] ((xs.drop k).take n) rfl (Bytes.nil _ _) rfl HW.out HL.out (Nat.le_refl _) ?_)
          all_goals
            intro v1 w1 hown1 hb1 _
            have hrd1 := (hb1.block rb hlt).trans HD.out.1
            obtain ⟨d0, d1, k0, k1⟩ := rd_cells hrd1
            have HR1 : Hid (w1.heap[rb]? = _) := hrd1
            have hrow1 := HD.out.2.1.below (hb1.mono (Nat.le_of_lt hlt))
            have HWC : Hid (cap = k + n → Row rb w1 (.slice (some ⟨b, off, none⟩) (xs.length - (k + n)) 0) (xs.drop (k + n))) := row_drop_eq hrow1 (by omega)
            have HWE : Hid (cap ≠ k + n → Row rb w1 (.slice (some ⟨b, off + (k + n), none⟩) (xs.length - (k + n)) (cap - (k + n))) (xs.drop (k + n))) := row_drop_ne hrow1 (by omega)
            clear hrd1 hrow1 c0 c1 f0 f1
            have HO : Hid (Bytes w'.heap.size w1 v1 ((xs.drop k).take n)) := hown1
            clear hown1
            go_wp2_with fail
            all_goals
              go_ret
              rw [HV.out]
              exact ⟨_, rfl, HO.out.but ((But.refl rb w1).setCell 0 _) hlt, ⟨_, rd_set0 HR1.out, row_set (by first | exact HWC.out (by omega) | exact HWE.out (by omega)) (Nat.le_refl _), fun x hx => HD.out.2.2 x (List.mem_of_mem_drop (show x ∈ xs.drop (k + n) from hx)), by show (xs.drop (k + n)).length ≤ _; rw [List.length_drop]; omega⟩, (But.of_below hb1).setCell 0 _⟩
    · have HU : Hid (bytesR xs 0 m = ([], xs, ((front xs (mostN m)).2.2 : Int))) := by show _ = _; rw [bytesR, if_neg (by simp), if_pos hz]
      obtain ⟨g1, g2, g3⟩ := hff.2 hz
      rw [g1, g2] at hcall
      generalize hf3 : (front xs (mostN m)).2.2 = f at hcall HU hz g3
      have HC : Hid (Calls Try.prog 30 #[v, .int .u64 (mostN m : Int)] w fun e w' => e = .returned (.tuple #[.int .u64 0, .int .i64 0, .int .i64 (f : Int)]) ∧ w' = w) := hcall
      have hb : ((f : Int) == 0) = false := by simpa using hz
      clear hff hcall hf3 hz g1 g2
      rcases hcase with ⟨hm0, hmm⟩ | ⟨hm0, hmm⟩
      all_goals
        rw [hmm] at HC
        clear hmm
        go_enter Try.func20, Try.ntmps20
        go_wp2_with (first
          | (go_at_call 30; refine HC.out.mono ?_; rintro x w' ⟨rfl, rfl⟩)
          | (go_at_call 21; refine (Fail_any rb xs 0 (f : Int) _ HR.out).mono ?_; rintro x w' ⟨rfl, hrd, hbut⟩))
        go_ret
        rw [HU.out]
        exact ⟨_, rfl, Bytes.nil _ _, hrd, hbut⟩
  · have hb : (e == 0) = false := by simpa using he
    have HB : Hid (bytesR xs e m = ([], xs, e)) := by show _ = _; rw [bytesR, if_pos he]
    clear hff hcall
    go_enter Try.func20, Try.ntmps20
    go_wp2
    go_ret
    rw [HB.out]
    exact ⟨_, rfl, Bytes.nil _ _, HR.out, But.refl _ _⟩

set_option maxHeartbeats 2000000 in
theorem Read_any (N : Nat) (v : Value) (xs : List Nat) (w : World) (hrow : Row N w v xs) (hx : ∀ x ∈ xs, x < 256) (hl : xs.length ≤ 140737488355328) :
    Calls Try.prog 14 #[v] w fun x w' => ∃ rb, x = .returned (.pointer (some ⟨rb, 0, none⟩)) ∧ w.heap.size ≤ rb ∧ Rd w' rb xs 0 ∧ Below w.heap.size w w' := by
  have HR : Hid (Row N w v xs) := hrow
  obtain ⟨ao, cap, rfl, hcap⟩ := hrow.shape
  clear hrow
  go_enter Try.func14, Try.ntmps14
  go_wp2_with (at_builtin; refine append_row (by rfl) _ _ rfl w.heap.size N _ _ [] xs rfl (Bytes.nil _ _) rfl HR.out (by simpa using hl) (Nat.le_refl _) ?_)
  intro v1 w1 hown1 hb1 _
  have hs1 := hb1.size
  have HO : Hid (Bytes w.heap.size w1 v1 xs) := hown1
  obtain ⟨ao1, cap1, rfl, hcap1⟩ := hown1.row.shape
  clear hown1
  go_wp2_with fail
  go_ret
  refine ⟨w1.heap.size, rfl, hs1, ⟨_, heap_alloc_new w1 _, HO.out.row.below ((Below.refl _ _).alloc (Nat.le_refl _) _), hx, hl⟩, hb1.alloc hs1 _⟩
end Go.Proofs.Ytidnhldjnbpafaa
