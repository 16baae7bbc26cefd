/- The reference of the slot: Sector. -/
import Derived.Test.YtpmmpdkeahmdiaaSecAll
import Derived.Test.YtpmmpdkeahmdiaaRefSum
import Derived.Lib.AppendStr
namespace Go.Proofs.Ytpmmpdkeahmdiaa
open Go.RowKit
set_option maxRecDepth 100000

theorem row_one4 (w : World) (z : Int) (n : Nat) (hz : z = n) : Row (w.heap.size + 1) (w.alloc (Obj.cells #[.int .u8 z] 5)) (.slice (some ⟨w.heap.size, 0, none⟩) 1 1) [n] := by
  subst hz
  exact ⟨_, _, rfl, by simp, fun h => by (cases h), fun _ => ⟨_, _, rfl, by omega, fun i hi => by
    obtain rfl : i = 0 := by simpa using hi
    simp⟩⟩
theorem Bytes.alloc4 {B : Nat} {w : World} {v : Value} {xs : List Nat} (h : Bytes B w v xs) (o : Obj) : Bytes B (w.alloc o) v xs := h.below ((Below.refl _ _).alloc (Nat.le_refl _) o)
theorem strB_size (xs : List Nat) : (strB xs).size = xs.length := by simp [strB, strOfNums, ByteArray.size]
theorem strCells_B {xs : List Nat} (hx : ∀ x ∈ xs, x < 256) : Lib.strCells (strB xs) = xs.map bv := by
  unfold Lib.strCells strB strOfNums
  simp only [List.map_map]
  refine List.map_congr_left fun x h => ?_
  have := hx x h
  simp [Nat.mod_eq_of_lt this]
/-- 'append(b, s...)' with a string. -/
theorem append_strB {w : World} {ops : Array Oper} {rest : List Oper} {o : Oper} {a : Act} {Q : Exit → Act → World → Prop} (hgd : o.guard = none) (s x : Operand)
    (ho : o.op = .call { callee := .builtin .append, args := #[s, x], argTypes := #[36, 9] }) (B : Nat) (v : Value) (xs ys : List Nat)
    (hs : a.eval s = v) (hown : Bytes B w v xs) (hx : a.eval x = .string (strB ys)) (hy : ∀ y ∈ ys, y < 256) (hl : xs.length + ys.length ≤ 140737488355328) (hB : B ≤ w.heap.size)
    (h : ∀ v' w', Bytes B w' v' (xs ++ ys) → Below B w w' → wpList Try.prog ops Q rest (a.put o.dst v') w') : wpList Try.prog ops Q (o :: rest) a w := by
  obtain ⟨i0, hi, hz0, hz1, hz2⟩ := info_parts infoByte
  refine Lib.wpList_append_own_string (w := w) hgd s x 36 9 ho B 5 i0 Try.underlying36 Try.underlying9 hi hz0 hz1 hz2 v xs.length (xs.map bv) hs hown (strB ys) hx (by rw [strB_size]; unfold maxLen; omega) (by rw [strB_size]; omega) hB ?_
  intro v' w' h5 h6 _
  refine h v' w' ?_ ((Below.refl B w).grown h6 hB (fun k hk => (World.ownsRow.lt hown k hk).1))
  rw [strB_size, strCells_B hy] at h5
  unfold Bytes
  rw [List.length_append, List.map_append]
  exact h5
theorem zeros_snoc (k : Nat) : zeros k ++ [0] = zeros (k + 1) := by simp [zeros, ← List.replicate_succ']
def sliceLen (v : Value) : Nat := match v with | .slice _ n _ => n | _ => 0
set_option maxHeartbeats 1000000 in
theorem refSector_any (n : Nat) (xs : List Nat) (w : World) (hn : n < 18446744073709551616) (hx : ∀ x ∈ xs, x < 256) (hl : xs.length ≤ 48) :
    Calls Try.prog 62 #[.int .u64 (n : Int), .string (strB xs)] w fun e w' => e = .returned (.string (strB (laySec n xs))) ∧ Below w.heap.size w w' := by
  have HX : Hid (∀ x ∈ xs, x < 256) := hx
  have HN : Hid (n < 18446744073709551616) := hn
  obtain ⟨sx, hsx⟩ : ∃ sx, strB xs = sx := ⟨_, rfl⟩
  have HSX : Hid (strB xs = sx) := hsx
  have hsz : sx.size = xs.length := by rw [← hsx, strB_size]
  rw [hsx]
  clear hsx hx hn
  go_enter Try.func62, Try.ntmps62
  go_wp2_with fail
  go_loopw [5, 6, 7] (fun v5 v6 v7 wr => ∃ i : Nat, v7 = .int .i64 i ∧ i ≤ 8 ∧ v6 = .int .u64 ((n / 256 ^ i : Nat) : Int) ∧ Bytes w.heap.size wr v5 (errB n i) ∧ Below w.heap.size w wr) (fun _ _ v7 _ => 8 - (intOf v7).toNat)
  case atStart => exact ⟨0, rfl, by omega, by simp, Bytes.nil _ _, Below.refl _ _⟩
  case round =>
    obtain ⟨i, rfl, hi, rfl, hown, hbw⟩ := hrel
    have HO : Hid (Bytes w.heap.size wr _ (errB n i)) := hown
    have HB : Hid (Below w.heap.size w wr) := hbw
    have hsw := hbw.size
    obtain ⟨m, hm⟩ : ∃ m, n / 256 ^ i = m := ⟨_, rfl⟩
    have HM : Hid (n / 256 ^ i = m) := hm
    have hm64 : m < 18446744073709551616 := by
      have hn := HN.out
      have : m ≤ n := by rw [← hm]; exact Nat.div_le_self _ _
      omega
    rw [hm]
    clear hown hbw hm
    by_cases h8 : i < 8
    · go_wp2_with (at_builtin; refine append_row (by rfl) _ _ rfl w.heap.size (wr.heap.size + 1) _ _ (errB n i) [m % 256] rfl (HO.out.alloc4 _) rfl (row_one4 _ _ _ (by omega)) (by rw [errB_len]; simp; omega) (by simp; omega) ?_)
      intro v1 w1 hown2 hb2 _
      have HO2 : Hid (Bytes w.heap.size w1 v1 (errB n (i + 1))) := by
        rw [errB_snoc, HM.out]; exact hown2
      have HB2 : Hid (Below w.heap.size w w1) := (HB.out.alloc (by omega) _).trans hb2
      clear hown2 hb2
      go_wp2_with fail
      go_roundw
      case rel => exact ⟨i + 1, by go_num, by omega, by rw [Nat.pow_succ, ← Nat.div_div_eq_div_mul, HM.out]; go_num, HO2.out, HB2.out⟩
      case measure => simp [intOf]; omega
    · have hi8 : i = 8 := by omega
      subst hi8
      have hlx : ((xs.length : Int)) < 256 := by omega
      go_wp2_with (at_builtin; refine append_row (by rfl) _ _ rfl w.heap.size (wr.heap.size + 1) _ _ (errB n 8) [xs.length] rfl (HO.out.alloc4 _) rfl (row_one4 _ _ _ (by omega)) (by rw [errB_len]; simp) (by simp; omega) ?_)
      intro v1 w1 hown2 hb2 _
      have HO2 : Hid (Bytes w.heap.size w1 v1 (errB n 8 ++ [xs.length])) := hown2
      have HB2 : Hid (Below w.heap.size w w1) := (HB.out.alloc (by omega) _).trans hb2
      have hs2 := HB2.out.size
      clear hown2 hb2
      go_wp2_with (at_builtin; refine append_strB rfl _ _ rfl w.heap.size _ (errB n 8 ++ [xs.length]) xs rfl HO2.out (by show Value.string sx = _; rw [HSX.out]) HX.out (by rw [List.length_append, errB_len]; simp; omega) hs2 ?_)
      intro v2 w2 hown3 hb3
      have HO3 : Hid (Bytes w.heap.size w2 v2 (errB n 8 ++ [xs.length] ++ xs)) := hown3
      have HB3 : Hid (Below w.heap.size w w2) := HB2.out.trans hb3
      clear hown3 hb3
      have HP9 : Hid ((errB n 8 ++ [xs.length] ++ xs).length = 9 + xs.length) := by show _ = _; simp [errB_len]; omega
      have HFR : Hid (errB n 8 ++ [xs.length] ++ xs ++ zeros (51 - xs.length) = front60 n xs) := by show _ = _; simp [front60]
      obtain ⟨PP, hPP⟩ : ∃ PP, errB n 8 ++ [xs.length] ++ xs = PP := ⟨_, rfl⟩
      rw [hPP] at HO3 HP9 HFR
      clear hPP
      go_wp2_with fail
      go_loopw [5] (fun v5 wr => ∃ k : Nat, 9 + xs.length + k ≤ 60 ∧ Bytes w.heap.size wr v5 (PP ++ zeros k) ∧ Below w.heap.size w wr) (fun v5 _ => 60 - sliceLen v5)
      case atStart => exact ⟨0, by omega, by simpa [zeros] using HO3.out, HB3.out⟩
      case round =>
        clear HO3 HB3
        obtain ⟨k, hk, hown, hbw⟩ := hrel
        obtain ⟨ao, cap, hsh, _⟩ := hown.row.shape
        have hlk : (PP ++ zeros k).length = 9 + xs.length + k := by rw [List.length_append, HP9.out]; simp [zeros]
        rw [hlk] at hsh
        subst hsh
        have HO : Hid (Bytes w.heap.size wr (.slice ao (9 + xs.length + k) cap) (PP ++ zeros k)) := hown
        have HB : Hid (Below w.heap.size w wr) := hbw
        have HLK : Hid ((PP ++ zeros k).length = 9 + xs.length + k) := hlk
        have hsw := hbw.size
        clear hown hbw hlk
        by_cases h60 : 9 + xs.length + k < 60
        · go_wp2_with (at_builtin; refine append_row (by rfl) _ _ rfl w.heap.size (wr.heap.size + 1) _ _ (PP ++ zeros k) [0] rfl (HO.out.alloc4 _) rfl (row_one4 _ _ _ (by omega)) (by rw [HLK.out]; simp; omega) (by simp; omega) ?_)
          intro v3 w3 hown4 hb4 _
          have HO4 : Hid (Bytes w.heap.size w3 v3 (PP ++ zeros (k + 1))) := by
            rw [zeros_snoc] at hown4; exact hown4
          have HB4 : Hid (Below w.heap.size w w3) := (HB.out.alloc (by omega) _).trans hb4
          obtain ⟨ao3, cap3, hsh3, _⟩ := HO4.out.row.shape
          have hl3 : (PP ++ zeros (k + 1)).length = 9 + xs.length + (k + 1) := by rw [List.length_append, HP9.out]; simp [zeros]
          rw [hl3] at hsh3
          subst hsh3
          clear hown4 hb4
          go_wp2_with fail
          go_roundw
          case rel => exact ⟨k + 1, by omega, HO4.out, HB4.out⟩
          case measure => simp [sliceLen]; omega
        · have hkk : k = 51 - xs.length := by omega
          have HO5 : Hid (Bytes w.heap.size wr (.slice ao (9 + xs.length + k) cap) (front60 n xs)) := by rw [← HFR.out, ← hkk]; exact HO.out
          have hfl := front_len (n := n) hl
          have h60' : 9 + xs.length + k = 60 := by omega
          rw [h60'] at HO5
          rw [h60']
          clear HO h60
          go_wp2_with fail
          refine (refSum_any wr.heap.size _ (front60 n xs) wr HO5.out.row (front_byte hl HX.out) (by omega)).mono ?_
          rintro e w4 ⟨rfl, rfl⟩
          obtain ⟨FR, hFR⟩ : ∃ FR, front60 n xs = FR := ⟨_, rfl⟩
          have HFR2 : Hid (front60 n xs = FR) := hFR
          rw [hFR] at HO5 hfl
          rw [hFR]
          obtain ⟨sm, hsm⟩ : ∃ sm, sumOf FR = sm := ⟨_, rfl⟩
          have HSM : Hid (sumOf FR = sm) := hsm
          have hsml : sm < 4294967296 := by rw [← hsm]; exact sumOf_lt
          rw [hsm]
          clear hFR hsm
          go_wp2_with fail
          go_loopw [5, 8, 9] (fun v5 v8 v9 wr => ∃ i : Nat, v9 = .int .i64 i ∧ i ≤ 4 ∧ v8 = .int .u32 ((sm / 256 ^ i : Nat) : Int) ∧ Bytes w.heap.size wr v5 (FR ++ errB sm i) ∧ Below w.heap.size w wr) (fun _ _ v9 _ => 4 - (intOf v9).toNat)
          case atStart => exact ⟨0, rfl, by omega, by simp, by simpa [errB] using HO5.out, HB.out⟩
          case round =>
            clear HO5 HB
            obtain ⟨i, rfl, hi, rfl, hown, hbw⟩ := hrel
            have HO : Hid (Bytes w.heap.size wr _ (FR ++ errB sm i)) := hown
            have HB : Hid (Below w.heap.size w wr) := hbw
            have hsw2 := hbw.size
            obtain ⟨m, hm⟩ : ∃ m, sm / 256 ^ i = m := ⟨_, rfl⟩
            have HM : Hid (sm / 256 ^ i = m) := hm
            have hm32 : m < 4294967296 := by
              have : m ≤ sm := by rw [← hm]; exact Nat.div_le_self _ _
              omega
            rw [hm]
            clear hown hbw hm
            by_cases h4 : i < 4
            · go_wp2_with (at_builtin; refine append_row (by rfl) _ _ rfl w.heap.size (wr.heap.size + 1) _ _ (FR ++ errB sm i) [m % 256] rfl (HO.out.alloc4 _) rfl (row_one4 _ _ _ (by omega)) (by rw [List.length_append, errB_len]; simp; omega) (by simp; omega) ?_)
              intro v1 w1 hown2 hb2 _
              have HO2 : Hid (Bytes w.heap.size w1 v1 (FR ++ errB sm (i + 1))) := by
                rw [errB_snoc, HM.out]; exact hown2
              have HB2 : Hid (Below w.heap.size w w1) := (HB.out.alloc (by omega) _).trans hb2
              clear hown2 hb2
              go_wp2_with fail
              go_roundw
              case rel => exact ⟨i + 1, by go_num, by omega, by rw [Nat.pow_succ, ← Nat.div_div_eq_div_mul, HM.out]; go_num, HO2.out, HB2.out⟩
              case measure => simp [intOf]; omega
            · have hi4 : i = 4 := by omega
              subst hi4
              have hres : FR ++ errB sm 4 = laySec n xs := by rw [laySec, HFR2.out, HSM.out]
              have hcv := HO.out.row.str
              rw [hres] at hcv
              obtain ⟨ao5, cap5, hsh5, _⟩ := HO.out.row.shape
              have HCV : Hid ((convert 36 9 _).run Try.prog wr = .ok (.string (strB (laySec n xs))) wr) := hcv
              clear hres hsh5
              go_wp2_with fail
              go_ret
              exact ⟨rfl, HB.out⟩
end Go.Proofs.Ytpmmpdkeahmdiaa
