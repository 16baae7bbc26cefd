/- The reference's readers: End, Byte. -/
import Derived.Test.YtidnhldjnbpafaaRefReader
namespace Go.Proofs.Ytidnhldjnbpafaa
open Go.RowKit
set_option maxRecDepth 100000

set_option maxHeartbeats 2000000 in
theorem refEnd_any (N : Nat) (v : Value) (xs : List Nat) (n : Nat) (e : Int) (w : World) (hrow : Row N w v xs) (hn : n ≤ xs.length) :
    Calls Try.prog 25 #[rv v n e] w fun x w' => x = .returned (.int .i64 (endE (xs.drop n).length e)) ∧ Below w.heap.size w w' := by
  obtain ⟨ao, cap, rfl, hcap⟩ := hrow.shape
  have hB := (Below.refl w.heap.size w).alloc (Nat.le_refl _) (Obj.cells #[.slice ao xs.length cap, .int .i64 (n : Int), .int .i64 e] 36)
  have HB : Hid (Below w.heap.size w (w.alloc (Obj.cells #[.slice ao xs.length cap, .int .i64 (n : Int), .int .i64 e] 36))) := hB
  rw [List.length_drop]
  clear hrow hB
  by_cases he : e = 0
  · subst he
    by_cases hx : n < xs.length
    · have HF : Hid (endE (xs.length - n) 0 = 23) := by show _ = _; rw [endE, if_pos ⟨rfl, by omega⟩]
      go_enter Try.func25, Try.ntmps25
      go_wp2
      go_ret
      exact ⟨by rw [HF.out]; rfl, HB.out⟩
    · have HF : Hid (endE (xs.length - n) 0 = 0) := by show _ = _; rw [endE, if_neg (by omega)]
      go_enter Try.func25, Try.ntmps25
      go_wp2
      go_ret
      exact ⟨by rw [HF.out]; rfl, HB.out⟩
  · have HF : Hid (endE (xs.length - n) e = e) := by show _ = _; rw [endE, if_neg (fun h => he h.1)]
    have hb : (e == 0) = false := by simpa using he
    go_enter Try.func25, Try.ntmps25
    go_wp2
    go_ret
    exact ⟨by rw [HF.out]; rfl, HB.out⟩

set_option maxHeartbeats 2000000 in
theorem refByte_any (N : Nat) (v : Value) (xs : List Nat) (n : Nat) (e : Int) (w : World) (hrow : Row N w v xs) (hn : n ≤ xs.length) (hl : xs.length ≤ 140737488355328) :
    Calls Try.prog 15 #[rv v n e] w fun x w' => ∃ n', x = .returned (.tuple #[rv v n' (byteR (xs.drop n) e).2.2, bv (byteR (xs.drop n) e).1]) ∧ xs.drop n' = (byteR (xs.drop n) e).2.1 ∧ n' ≤ xs.length ∧ Below w.heap.size w w' := by
  obtain ⟨ao, cap, rfl, hcap, hno, hc⟩ := hrow
  by_cases he : e = 0
  · subst he
    by_cases hx : n < xs.length
    · obtain ⟨b, off, rfl, hN, hd⟩ := hc (by omega)
      have hck := hd n hx
      have hlt := lt_of_cell hck
      have hne : w.heap.size ≠ b := by omega
      have HF : Hid (byteR (xs.drop n) 0 = (xs.getD n 0, xs.drop (n + 1), 0)) := by
        show _ = _
        rw [byteR, if_neg (by simp), List.drop_eq_getElem_cons hx]
        simp [List.getD_eq_getElem?_getD, List.getElem?_eq_getElem hx, show ¬ xs.length - n = 0 by omega]
      clear hc hd hno
      generalize xs.getD n 0 = c at hck HF
      go_enter Try.func15, Try.ntmps15
      go_wp2
      go_returns
      rw [HF.out]
      exact ⟨n + 1, rfl, rfl, by omega, by go_grown⟩
    · have HF : Hid (byteR (xs.drop n) 0 = (0, [], 20)) := by show _ = _; rw [byteR, if_neg (by simp), List.drop_eq_nil_of_le (by omega)]; rfl
      clear hc hno
      go_enter Try.func15, Try.ntmps15
      go_wp2
      go_returns
      rw [HF.out]
      exact ⟨n, rfl, List.drop_eq_nil_of_le (by omega), hn, by go_grown⟩
  · have HF : Hid (byteR (xs.drop n) e = (0, xs.drop n, e)) := by show _ = _; rw [byteR, if_pos he]
    have hb : (e == 0) = false := by simpa using he
    clear hc hno
    go_enter Try.func15, Try.ntmps15
    go_wp2
    go_returns
    rw [HF.out]
    exact ⟨n, rfl, rfl, hn, by go_grown⟩
end Go.Proofs.Ytidnhldjnbpafaa
