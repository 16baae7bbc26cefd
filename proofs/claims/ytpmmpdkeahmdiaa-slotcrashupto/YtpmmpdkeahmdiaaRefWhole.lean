/- The reference of the disk: bytes as a sector's; where a sector stands, in a row of sectors. -/
import Derived.Test.YtpmmpdkeahmdiaaRefRow
namespace Go.Proofs.Ytpmmpdkeahmdiaa
open Go.RowKit
set_option maxRecDepth 100000

theorem one_row (w : World) (z : Int) (n : Nat) (hz : z = n) : Row (w.heap.size + 1) (w.alloc (Obj.cells #[.int .u8 z] 5)) (.slice (some ⟨w.heap.size, 0, none⟩) 1 1) [n] := by
  subst hz
  exact ⟨_, _, rfl, by simp, fun h => by (cases h), fun _ => ⟨_, _, rfl, by omega, fun i hi => by
    obtain rfl : i = 0 := by simpa using hi
    simp⟩⟩
theorem own_alloc {B : Nat} {w : World} {v : Value} {xs : List Nat} (h : Bytes B w v xs) (o : Obj) : Bytes B (w.alloc o) v xs := h.below ((Below.refl _ _).alloc (Nat.le_refl _) o)
theorem own_none (B : Nat) (w : World) (hB : B ≤ w.heap.size) : Bytes B (w.alloc (Obj.cells #[] 5)) (.slice (some ⟨w.heap.size, 0, none⟩) 0 0) [] := World.ownsRow_lit w #[] 0 hB (by decide) rfl
set_option maxHeartbeats 2000000 in
theorem refWhole_any (N : Nat) (y : Value) (xs : List Nat) (w : World) (hr : Row N w y xs) (hN : N ≤ w.heap.size) (hl : xs.length ≤ 64) :
    Calls Try.prog 74 #[y] w fun e w' => e = .returned (.string (strB (pad xs))) ∧ Below w.heap.size w w' := by
  have HR : Hid (∀ o, Row N (w.alloc o) y xs) := fun o => hr.below ((Below.refl _ _).alloc hN o)
  have HN := own_none w.heap.size w (Nat.le_refl _)
  obtain ⟨ao, cap, rfl, _⟩ := hr.shape
  clear hr
  go_enter Try.func74, Try.ntmps74
  go_wp2_with (at_builtin; refine append_row (by rfl) _ _ rfl w.heap.size N _ _ [] xs rfl HN rfl (HR.out _) (by simp; omega) (by simp) ?_)
  intro v1 w1 ho1 hb1 _
  have HB1 : Hid (Below w.heap.size w w1) := ((Below.refl _ w).alloc (Nat.le_refl _) _).trans hb1
  have HO1 : Hid (Bytes w.heap.size w1 v1 xs) := ho1
  clear ho1 hb1 HN
  go_wp2
  go_loopw [3] (fun v wr => ∃ k : Nat, xs.length + k ≤ 64 ∧ Bytes w.heap.size wr v (xs ++ List.replicate k 0) ∧ Below w.heap.size w wr) (fun v _ => 64 - (match v with | .slice _ n _ => n | _ => 0))
  case atStart => exact ⟨0, by omega, by simpa using HO1.out, HB1.out⟩
  case round =>
    clear HO1 HB1
    obtain ⟨k, hk, ho, hb⟩ := hrel
    have HO : Hid (Bytes w.heap.size wr _ (xs ++ List.replicate k 0)) := ho
    have HB : Hid (Below w.heap.size w wr) := hb
    have hs := hb.size
    obtain ⟨av, cv, rfl, _⟩ := ho.row.shape
    have hlen : (xs ++ List.replicate k 0).length = xs.length + k := by simp
    rw [hlen] at HO ⊢
    clear ho hb hlen
    by_cases h : xs.length + k < 64
    · have hi : ((xs.length + k : Nat) : Int) < 64 := by omega
      go_wp2_with (at_builtin; refine append_row (by rfl) _ _ rfl w.heap.size (wr.heap.size + 1) _ _ (xs ++ List.replicate k 0) [0] rfl (own_alloc HO.out _) rfl (one_row _ _ _ rfl) (by simp; omega) (by simp; omega) ?_)
      intro v2 w2 ho2 hb2 _
      have e : xs ++ (List.replicate k 0 ++ [0]) = xs ++ List.replicate (k + 1) 0 := by rw [List.replicate_succ']
      rw [e] at ho2
      have hb3 : Below w.heap.size w w2 := (HB.out.alloc hs _).trans hb2
      obtain ⟨av2, cv2, rfl, _⟩ := ho2.row.shape
      have hlen : (xs ++ List.replicate (k + 1) 0).length = xs.length + k + 1 := by simp; omega
      have HO2 : Hid (Bytes w.heap.size w2 (.slice av2 (xs ++ List.replicate (k + 1) 0).length cv2) (xs ++ List.replicate (k + 1) 0)) := ho2
      have HB3 : Hid (Below w.heap.size w w2) := hb3
      clear ho2 hb2 hb3 e
      go_wp2
      go_roundw
      case rel => exact ⟨k + 1, by omega, HO2.out, HB3.out⟩
      case measure => rw [hlen]; simp only; omega
    · have hi : ¬ ((xs.length + k : Nat) : Int) < 64 := by omega
      have hcv : (convert 36 9 (.slice av (xs.length + k) cv)).run Try.prog wr = .ok (.string (strB (pad xs))) wr := by
        have hk2 : k = 64 - xs.length := by omega
        rw [HO.out.row.str, pad, hk2]
      go_wp2
      go_ret
      exact ⟨rfl, HB.out⟩
theorem refAt_nil (r : RD) (ad : Option Addr) (c : Nat) (a m : Int) (w : World) :
    Calls Try.prog 63 #[rdV r (.slice ad 0 c), .int .u64 a, .int .i64 m] w fun e w' => e = .returned (.int .i64 (-1)) ∧ Below w.heap.size w w' := by
  unfold rdV
  go_enter Try.func63, Try.ntmps63
  go_wp2
  refine wp_loop_rounds 1 ?_
  rw [rounds_succ]
  go_wp2
  go_ret
  exact ⟨by simp, (Below.refl _ w).alloc (Nat.le_refl _) _⟩
theorem refAt_sec {P : Nat → Prop} (r : RD) (l : Value) (X : List RX) (a m : Int) (w : World) (h : SecRow P w l X) :
    Calls Try.prog 63 #[rdV r l, .int .u64 a, .int .i64 m] w fun e w' => (∃ k : Int, e = .returned (.int .i64 k) ∧ ((∃ (i : Nat) (x : RX), k = i ∧ X[i]? = some x ∧ x.s.area = a ∧ x.s.n = m) ∨ (k = -1 ∧ ∀ x ∈ X, ¬ (x.s.area = a ∧ x.s.n = m)))) ∧ Below w.heap.size w w' := by
  obtain ⟨ad, cap, rfl, hl, hc, _⟩ := h
  rcases Nat.eq_zero_or_pos X.length with h0 | h0
  · rw [h0]
    refine (refAt_nil r ad cap a m w).mono ?_
    rintro e w' ⟨rfl, hb⟩
    refine ⟨⟨-1, rfl, .inr ⟨rfl, fun x hx => ?_⟩⟩, hb⟩
    rw [List.eq_nil_of_length_eq_zero h0] at hx
    cases hx
  · obtain ⟨g, rfl, _, hg, hx⟩ := hc h0
    have hget : ∀ i, i < X.length → ∃ x, X[i]? = some x := fun i hi => ⟨_, List.getElem?_eq_getElem hi⟩
    refine (refAt_any r g X.length cap (fun i => ((X[i]?).map (·.s.area)).getD 0) (fun i => ((X[i]?).map (·.s.n)).getD 0) a m w hg (by omega) (fun i hi => ?_) (fun i hi => ?_)).mono ?_
    · obtain ⟨x, e⟩ := hget i hi
      rw [e]
      exact (hx i x e).c0
    · obtain ⟨x, e⟩ := hget i hi
      rw [e]
      exact (hx i x e).c1
    · rintro e w' ⟨⟨k, rfl, hk⟩, hb⟩
      refine ⟨⟨k, rfl, ?_⟩, hb⟩
      rcases hk with ⟨i, hi, rfl, h1, h2, _⟩ | ⟨rfl, h1⟩
      · obtain ⟨x, e⟩ := hget i hi
        simp only [e, Option.map_some, Option.getD_some] at h1 h2
        exact .inl ⟨i, x, rfl, e, h1, h2⟩
      · refine .inr ⟨rfl, fun x hx hh => ?_⟩
        obtain ⟨i, hi, e⟩ := List.getElem_of_mem hx
        have e2 : X[i]? = some x := by rw [List.getElem?_eq_getElem hi, e]
        have := h1 i hi
        simp only [e2, Option.map_some, Option.getD_some] at this
        exact this hh
end Go.Proofs.Ytpmmpdkeahmdiaa
