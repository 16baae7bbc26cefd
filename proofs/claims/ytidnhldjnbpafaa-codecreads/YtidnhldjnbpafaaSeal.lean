/- codec.Seal, and the laws' own 'alive'. -/
import Derived.Test.YtidnhldjnbpafaaReader3
import Derived.Lib.SlBytesConst
namespace Go.Proofs.Ytidnhldjnbpafaa
open Go.RowKit
set_option maxRecDepth 100000

/-- Four bytes of a number, the lowest first. -/
def le4 (s : Nat) : List Nat := [s % 256, s / 256 % 256, s / 256 / 256 % 256, s / 256 / 256 / 256 % 256]
def sealOf (xs : List Nat) : List Nat := uw xs.length ++ xs ++ le4 (sumOf xs)
theorem le4_four (s : Nat) : le4 s = ((([] ++ [s % 256]) ++ [s / 256 % 256]) ++ [s / 256 / 256 % 256]) ++ [s / 256 / 256 / 256 % 256] := rfl

set_option maxHeartbeats 4000000 in
theorem Seal_any (N : Nat) (v : Value) (xs : List Nat) (w : World) (hrow : Row N w v xs) (hN : N ≤ w.heap.size) (hx : ∀ x ∈ xs, x < 256) (hl : xs.length ≤ 140737488355328) :
    Calls Try.prog 28 #[v] w fun e w' => Below w.heap.size w w' ∧ ((2097152 < xs.length ∧ e = .returned (.tuple #[.slice none 0 0, .int .i64 22])) ∨
      (xs.length ≤ 2097152 ∧ ∃ v', e = .returned (.tuple #[v', .int .i64 0]) ∧ Bytes w.heap.size w' v' (sealOf xs))) := by
  have HR : Hid (Row N w v xs) := hrow
  have HX : Hid (∀ x ∈ xs, x < 256) := hx
  obtain ⟨ao, cap, rfl, hcap⟩ := hrow.shape
  clear hrow hx
  by_cases hlong : 2097152 < xs.length
  · go_enter Try.func28, Try.ntmps28
    go_wp2_with fail
    go_ret2
    exact ⟨Below.refl _ _, .inl ⟨hlong, rfl⟩⟩
  · have hul := uw_len10 (show xs.length < 18446744073709551616 by omega)
    go_enter Try.func28, Try.ntmps28
    go_wp2_with fail
    refine (PutBytes_any w.heap.size N _ _ [] xs w (Bytes.nil _ _) (Nat.le_refl _) HR.out hN (by simp; omega)).mono ?_
    rintro e w1 ⟨v1, rfl, hown1, hb1⟩
    have hs1 := hb1.size
    go_wp2_with fail
    refine (Sum_any N _ xs w1 (HR.out.below (hb1.mono hN)) HX.out hl).mono ?_
    rintro e w1' ⟨rfl, rfl⟩
    have hsl := sumOf_lt (xs := xs)
    have HS : Hid (sealOf xs = (uw xs.length ++ xs) ++ [sumOf xs % 256, sumOf xs / 256 % 256, sumOf xs / 256 / 256 % 256, sumOf xs / 256 / 256 / 256 % 256]) := rfl
    have hlen : (uw xs.length ++ xs).length ≤ 2097162 := by rw [List.length_append]; omega
    rw [List.nil_append] at hown1
    generalize sumOf xs = s at hsl HS
    generalize uw xs.length ++ xs = ys at hown1 HS hlen
    go_wp2_with fail
    refine wp_loop_rounds 5 ?_
    rw [rounds_succ]
    go_wp2_with (at_builtin; refine append_row (by rfl) _ _ rfl w.heap.size (w1'.heap.size + 1) _ _ ys [s % 256] rfl (Bytes.alloc hown1 _) rfl (row_one _ _ _ (by omega)) (by simp; omega) (by simp; omega) ?_)
    intro v2 w2 hown2 hb2 _
    have hb2' : Below w.heap.size w w2 := (hb1.alloc hs1 _).trans hb2
    have hs2 := hb2'.size
    have HO2 : Hid (Bytes w.heap.size w2 v2 (ys ++ [s % 256])) := hown2
    clear hb2 hown2 hown1
    go_wp2_with fail
    rw [rounds_succ]
    go_wp2_with (at_builtin; refine append_row (by rfl) _ _ rfl w.heap.size (w2.heap.size + 1) _ _ (ys ++ [s % 256]) [s / 256 % 256] rfl (Bytes.alloc HO2.out _) rfl (row_one _ _ _ (by omega)) (by simp; omega) (by simp; omega) ?_)
    intro v3 w3 hown3 hb3 _
    have hb3' : Below w.heap.size w w3 := (hb2'.alloc hs2 _).trans hb3
    have hs3 := hb3'.size
    have HO3 : Hid (Bytes w.heap.size w3 v3 (ys ++ [s % 256, s / 256 % 256])) := hown3
    clear hb3 hown3
    go_wp2_with fail
    rw [rounds_succ]
    go_wp2_with (at_builtin; refine append_row (by rfl) _ _ rfl w.heap.size (w3.heap.size + 1) _ _ (ys ++ [s % 256, s / 256 % 256]) [s / 256 / 256 % 256] rfl (Bytes.alloc HO3.out _) rfl (row_one _ _ _ (by omega)) (by simp; omega) (by simp; omega) ?_)
    intro v4 w4 hown4 hb4 _
    have hb4' : Below w.heap.size w w4 := (hb3'.alloc hs3 _).trans hb4
    have hs4 := hb4'.size
    have HO4 : Hid (Bytes w.heap.size w4 v4 (ys ++ [s % 256, s / 256 % 256, s / 256 / 256 % 256])) := hown4
    clear hb4 hown4
    go_wp2_with fail
    rw [rounds_succ]
    go_wp2_with (at_builtin; refine append_row (by rfl) _ _ rfl w.heap.size (w4.heap.size + 1) _ _ (ys ++ [s % 256, s / 256 % 256, s / 256 / 256 % 256]) [s / 256 / 256 / 256 % 256] rfl (Bytes.alloc HO4.out _) rfl (row_one _ _ _ (by omega)) (by simp; omega) (by simp; omega) ?_)
    intro v5 w5 hown5 hb5 _
    have hb5' : Below w.heap.size w w5 := (hb4'.alloc hs4 _).trans hb5
    go_wp2_with fail
    rw [rounds_succ]
    go_wp2_with fail
    go_ret2
    exact ⟨hb5', .inr ⟨by omega, _, rfl, by rw [HS.out]; exact hown5⟩⟩

theorem sum_known : sumOf [49, 50, 51, 52, 53, 54, 55, 56, 57] = 3808858755 := by decide +kernel
theorem row_lit (w : World) (xs : List Nat) (k : Nat) (f : Nat × Nat) (hk : xs.length = k) : Row (w.heap.size + 1) (w.alloc (Obj.cells (xs.map bv).toArray 5 f)) (.slice (some ⟨w.heap.size, 0, none⟩) k k) xs := by
  subst hk
  refine ⟨_, _, rfl, Nat.le_refl _, fun h => by (cases h), fun _ => ⟨_, _, rfl, by omega, fun i hi => ?_⟩⟩
  have h : (w.alloc (Obj.cells (xs.map bv).toArray 5 f)).heap[w.heap.size]? = some (Obj.cells (xs.map bv).toArray 5 f) := heap_alloc_new w _
  simp only [World.cell?, h]
  simp [List.getD_eq_getElem?_getD, List.getElem?_eq_getElem hi]

set_option maxHeartbeats 4000000 in
theorem alive_any (w : World) : Calls Try.prog 10 #[] w fun e w' => e = .returned (.bool true) ∧ Below w.heap.size w w' := by
  go_enter Try.func10, Try.ntmps10
  go_wp2_with fail
  refine (Seal_any 0 _ [] w ⟨none, 0, rfl, Nat.le_refl _, fun _ => rfl, fun h => by (simp at h)⟩ (Nat.zero_le _) (by simp) (by simp)).mono ?_
  rintro e w1 ⟨hb1, ⟨h, _⟩ | ⟨_, v1, rfl, hown1⟩⟩
  · simp at h
  have hlen : (sealOf []).length = 5 := by rw [sealOf, List.length_nil, uw_lt (by decide)]; rfl
  obtain ⟨ao, cap, rfl, hcap⟩ := hown1.row.shape
  rw [hlen] at *
  clear hlen
  have HRow := row_lit w1 [172, 2] 2 (0, 0) rfl
  have hs1 := hb1.size
  have HB1 : Hid (Below w.heap.size w (w1.alloc (Obj.cells #[.int .u8 172, .int .u8 2] 5))) := hb1.alloc hs1 _
  have HR : Hid (Row (w1.heap.size + 1) (w1.alloc (Obj.cells #[.int .u8 172, .int .u8 2] 5)) (.slice (some ⟨w1.heap.size, 0, none⟩) 2 2) [172, 2]) := HRow
  clear HRow hown1
  go_wp2_with fail
  refine (Read_any _ _ [172, 2] _ HR.out (by simp) (by simp)).mono ?_
  rintro e w2 ⟨rb, rfl, hrb, hrd, hb2⟩
  have hb2' := HB1.out.trans (hb2.mono HB1.out.size)
  have hrbw : w.heap.size ≤ rb := Nat.le_trans HB1.out.size hrb
  clear HR HB1 hb1
  go_wp2_with fail
  refine (Uint_any rb [172, 2] 0 1000 w2 hrd).mono ?_
  rintro e w3 ⟨rfl, hrd3, hbut3⟩
  have hu : uintR [172, 2] 0 1000 = (300, [], 0) := by decide +kernel
  rw [hu] at *
  have hb3 : Below w.heap.size w w3 := hb2'.trans (hbut3.below hrbw hb2'.size)
  have hs3 := hb3.size
  clear hu hbut3 hrd hb2 hb2'
  have HS : Hid (Row (w3.heap.size + 1) (w3.alloc (Obj.cells #[.int .u8 49, .int .u8 50, .int .u8 51, .int .u8 52, .int .u8 53, .int .u8 54, .int .u8 55, .int .u8 56, .int .u8 57] 5 (9, 10))) (.slice (some ⟨w3.heap.size, 0, none⟩) 9 9) [49, 50, 51, 52, 53, 54, 55, 56, 57]) := row_lit w3 [49, 50, 51, 52, 53, 54, 55, 56, 57] 9 (9, 10) rfl
  have hconv := Lib.run_convert_bytes_const (P := Try.prog) w3 22 5 #[.int .u8 49, .int .u8 50, .int .u8 51, .int .u8 52, .int .u8 53, .int .u8 54, .int .u8 55, .int .u8 56, .int .u8 57] 9 9 Try.underlying22 Try.underlying5
  go_wp2_with fail
  refine (Sum_any _ _ [49, 50, 51, 52, 53, 54, 55, 56, 57] _ HS.out (by simp) (by simp)).mono ?_
  rintro e w4 ⟨rfl, rfl⟩
  clear hconv
  rw [sum_known]
  have HRD : Hid (Rd (w3.alloc (Obj.cells #[.int .u8 49, .int .u8 50, .int .u8 51, .int .u8 52, .int .u8 53, .int .u8 54, .int .u8 55, .int .u8 56, .int .u8 57] 5 (9, 10))) rb [] 0) := hrd3.but ((Below.refl _ _).alloc (Nat.le_refl _) _)
  have hb4 := hb3.alloc hs3 (Obj.cells #[.int .u8 49, .int .u8 50, .int .u8 51, .int .u8 52, .int .u8 53, .int .u8 54, .int .u8 55, .int .u8 56, .int .u8 57] 5 (9, 10))
  clear HS
  go_wp2_with fail
  refine (End_any rb [] 0 _ HRD.out).mono ?_
  rintro e w5 ⟨rfl, n5, rfl⟩
  go_wp2_with fail
  go_ret
  exact ⟨rfl, below_drewN hb4 _⟩
end Go.Proofs.Ytidnhldjnbpafaa
