/- codec's readers: Byte, Uint, Bytes. -/
import Derived.Test.YtidnhldjnbpafaaReader
namespace Go.Proofs.Ytidnhldjnbpafaa
open Go.RowKit
set_option maxRecDepth 100000

def byteR (xs : List Nat) (e : Int) : Nat × List Nat × Int := if e ≠ 0 then (0, xs, e) else (xs.headD 0, xs.tail, if xs.length = 0 then 20 else 0)

set_option maxHeartbeats 2000000 in
theorem Byte_any (rb : Nat) (xs : List Nat) (e : Int) (w : World) (h : Rd w rb xs e) :
    Calls Try.prog 16 #[.pointer (some ⟨rb, 0, none⟩)] w fun x w' => x = .returned (bv (byteR xs e).1) ∧ Rd w' rb (byteR xs e).2.1 (byteR xs e).2.2 ∧ But rb w w' := by
  have HR : Hid (Rd w rb xs e) := h
  obtain ⟨v, h1, h2, h3, h4⟩ := h
  obtain ⟨c0, c1, f0, f1⟩ := rd_cells h1
  have HD : Hid (w.heap[rb]? = some (.cells #[v, .int .i64 e] 60 (0, 0)) ∧ Row rb w v xs ∧ (∀ x ∈ xs, x < 256)) := ⟨h1, h2, h3⟩
  obtain ⟨ao, cap, rfl, hcap, hno, hc⟩ := h2
  clear h1 h3
  by_cases he : e = 0
  · subst he
    cases xs with
    | nil =>
      go_enter Try.func16, Try.ntmps16
      go_wp2_with (go_at_call 21; refine (Fail_any rb [] 0 20 _ HR.out).mono ?_; rintro x w' ⟨rfl, hrd, hbut⟩)
      go_ret
      exact ⟨rfl, hrd, hbut⟩
    | cons c r =>
      obtain ⟨b, off, rfl, hN, hd⟩ := hc (by simp)
      have hck : w.cell? ⟨b, off, none⟩ = some (bv c) := hd 0 (by simp)
      have HX : Hid (∀ x ∈ c :: r, x < 256) := HD.out.2.2
      have hlen : (c :: r).length = r.length + 1 := rfl
      rw [hlen] at c0 hcap h4
      have hc1 : 1 ≤ cap := by omega
      have HA : Hid (cap = 1 → Row rb w (.slice (some ⟨b, off, none⟩) r.length 0) r) := row_drop_eq (k := 1) HD.out.2.1 (by simp)
      have HB : Hid (cap ≠ 1 → Row rb w (.slice (some ⟨b, off + 1, none⟩) r.length (cap - 1)) r) := row_drop_ne (k := 1) HD.out.2.1 (by simp)
      have HE : Hid (byteR (c :: r) 0 = (c, r, 0)) := by show _ = _; rw [byteR, if_neg (by simp)]; rfl
      clear hc hd hno hlen
      go_enter Try.func16, Try.ntmps16
      go_wp2
      all_goals
        go_ret
        rw [HE.out]
        exact ⟨rfl, ⟨_, rd_set0 HD.out.1, row_set (by first | exact HA.out (by omega) | exact HB.out (by omega)) (Nat.le_refl _), fun x hx => HX.out x (by simp [show x ∈ r from hx]), by show r.length ≤ _; omega⟩, (But.refl _ _).setCell 0 _⟩
  · have hb : (e == 0) = false := by simpa using he
    have HB : Hid (byteR xs e = (0, xs, e)) := by show _ = _; rw [byteR, if_pos he]
    go_enter Try.func16, Try.ntmps16
    go_wp2
    go_ret
    rw [HB.out]
    exact ⟨rfl, HR.out, But.refl _ _⟩

def uintR (xs : List Nat) (e : Int) (most : Nat) : Nat × List Nat × Int :=
  if e ≠ 0 then (0, xs, e) else if (front xs most).2.2 ≠ 0 then (0, xs, ((front xs most).2.2 : Int)) else ((front xs most).1, xs.drop (front xs most).2.1, 0)

set_option maxHeartbeats 2000000 in
theorem Uint_any (rb : Nat) (xs : List Nat) (e : Int) (most : Nat) (w : World) (h : Rd w rb xs e) :
    Calls Try.prog 18 #[.pointer (some ⟨rb, 0, none⟩), .int .u64 (most : Int)] w fun x w' => x = .returned (.int .u64 ((uintR xs e most).1 : Int)) ∧ Rd w' rb (uintR xs e most).2.1 (uintR xs e most).2.2 ∧ But rb w w' := by
  have HR : Hid (Rd w rb xs e) := h
  obtain ⟨v, h1, h2, h3, h4⟩ := h
  obtain ⟨c0, c1, f0, f1⟩ := rd_cells h1
  have HD : Hid (w.heap[rb]? = some (.cells #[v, .int .i64 e] 60 (0, 0)) ∧ Row rb w v xs ∧ (∀ x ∈ xs, x < 256)) := ⟨h1, h2, h3⟩
  have hff := front_facts xs most h3
  have hcall := frontUint_any rb v xs most w h2 h3 h4
  clear h1 h3
  by_cases he : e = 0
  · subst he
    by_cases hz : (front xs most).2.2 = 0
    · have HU : Hid (uintR xs 0 most = ((front xs most).1, xs.drop (front xs most).2.1, 0)) := by show _ = _; rw [uintR, if_neg (by simp), if_neg (by simp [hz])]
      obtain ⟨g1, g2, g3, g4, g5, _⟩ := hff.1 hz
      rw [hz] at hcall
      generalize hf1 : (front xs most).1 = n at hcall HU g4 g5
      generalize hf2 : (front xs most).2.1 = k at hcall HU g1 g2 g3
      have HC : Hid (Calls Try.prog 30 #[v, .int .u64 (most : Int)] w fun e w' => e = .returned (.tuple #[.int .u64 (n : Int), .int .i64 (k : Int), .int .i64 0]) ∧ w' = w) := hcall
      clear hff hcall hf1 hf2 hz
      obtain ⟨ao, cap, rfl, hcap, hno, hc⟩ := h2
      obtain ⟨b, off, rfl, hN, hd⟩ := hc (by omega)
      have HWA : Hid (cap = k → Row rb w (.slice (some ⟨b, off, none⟩) (xs.length - k) 0) (xs.drop k)) := row_drop_eq HD.out.2.1 g2
      have HWB : Hid (cap ≠ k → Row rb w (.slice (some ⟨b, off + k, none⟩) (xs.length - k) (cap - k)) (xs.drop k)) := row_drop_ne HD.out.2.1 g2
      have hkc : k ≤ cap := by omega
      clear hc hd hno
      go_enter Try.func18, Try.ntmps18
      go_wp2_with (go_at_call 30; refine HC.out.mono ?_; rintro x w' ⟨rfl, rfl⟩)
      all_goals
        go_ret
        rw [HU.out]
        exact ⟨rfl, ⟨_, rd_set0 HD.out.1, row_set (by first | exact HWA.out (by omega) | exact HWB.out (by omega)) (Nat.le_refl _), fun x hx => HD.out.2.2 x (List.mem_of_mem_drop (show x ∈ xs.drop k from hx)), by show (xs.drop k).length ≤ _; rw [List.length_drop]; omega⟩, (But.refl _ _).setCell 0 _⟩
    · have HU : Hid (uintR xs 0 most = (0, xs, ((front xs most).2.2 : Int))) := by show _ = _; rw [uintR, if_neg (by simp), if_pos hz]
      obtain ⟨g1, g2, g3⟩ := hff.2 hz
      rw [g1, g2] at hcall
      generalize hf3 : (front xs most).2.2 = f at hcall HU hz g3
      have HC : Hid (Calls Try.prog 30 #[v, .int .u64 (most : Int)] w fun e w' => e = .returned (.tuple #[.int .u64 0, .int .i64 0, .int .i64 (f : Int)]) ∧ w' = w) := hcall
      have hb : ((f : Int) == 0) = false := by simpa using hz
      clear hff hcall hf3 hz g1 g2
      go_enter Try.func18, Try.ntmps18
      go_wp2_with (first
        | (go_at_call 30; refine HC.out.mono ?_; rintro x w' ⟨rfl, rfl⟩)
        | (go_at_call 21; refine (Fail_any rb xs 0 (f : Int) _ HR.out).mono ?_; rintro x w' ⟨rfl, hrd, hbut⟩))
      go_ret
      rw [HU.out]
      exact ⟨rfl, hrd, hbut⟩
  · have hb : (e == 0) = false := by simpa using he
    have HB : Hid (uintR xs e most = (0, xs, e)) := by show _ = _; rw [uintR, if_pos he]
    clear hff hcall
    go_enter Try.func18, Try.ntmps18
    go_wp2
    go_ret
    rw [HB.out]
    exact ⟨rfl, HR.out, But.refl _ _⟩
end Go.Proofs.Ytidnhldjnbpafaa
