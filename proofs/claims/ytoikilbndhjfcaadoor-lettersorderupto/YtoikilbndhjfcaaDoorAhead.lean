/- letters.Less, and the reference's Ahead and Less: which of two rows is ahead. -/
import Derived.Test.YtoikilbndhjfcaaDoorSame
import Derived.Test.YtoikilbndhjfcaaDoorLex
namespace Go.Proofs.YtoikilbndhjfcaaDoor
open Go.RowKit Nums
set_option maxRecDepth 100000

theorem drewN3 (w : World) (a b c : Nat) : ∃ n, ((w.drewN a).drewN b).drewN c = w.drewN n := ⟨a + (b + c), by rw [World.drewN_drewN, World.drewN_drewN]⟩
theorem Less_any (a b : ByteArray) (w : World) : Calls Tryd.prog 15 #[.string a, .string b] w fun e w' => e = .returned (.bool (lexL (a.data.toList.map N) (b.data.toList.map N))) ∧ w' = w := by
  have HL : Hid (Op.bytesLess a.toList b.toList = lexL (a.data.toList.map N) (b.data.toList.map N)) := by
    show Op.bytesLess _ _ = _
    rw [ByteArray.toList_eq, ByteArray.toList_eq, less_lex]
  go_enter Tryd.func15, Tryd.ntmps15
  go_wp2
  go_ret
  exact ⟨ret_bool HL.out, rfl⟩

set_option maxHeartbeats 2000000 in
theorem Ahead_any (a b : ByteArray) (w : World) (ha : a.size ≤ 9223372036854775807) (_ : b.size ≤ 9223372036854775807) :
    Calls Tryd.prog 16 #[.string a, .string b] w fun e w' => e = .returned (.bool (lexL (a.data.toList.map N) (b.data.toList.map N))) ∧ ∃ n, w' = w.drewN n := by
  have HA : Hid (∀ i (h : i < a.size), ((a[i]'h).toNat : Int) = bt a.data.toList i) := bt_get a
  have HB : Hid (∀ i (h : i < b.size), ((b[i]'h).toNat : Int) = bt b.data.toList i) := bt_get b
  have HM : Hid ((a.data.toList.map N).length = a.size ∧ (b.data.toList.map N).length = b.size) := ⟨by rw [List.length_map, size_length], by rw [List.length_map, size_length]⟩
  go_enter Tryd.func16, Tryd.ntmps16
  go_wp2
  go_loopw [5] (fun i wr => ∃ k : Nat, k ≤ a.size ∧ k ≤ b.size ∧ i = .int .i64 k ∧ (∀ j, j < k → (a.data.toList.map N).getD j 0 = (b.data.toList.map N).getD j 0) ∧ ∃ n, wr = w.drewN n) (fun i _ => a.size - (intOf i).toNat)
  case atStart => exact ⟨0, Nat.zero_le _, Nat.zero_le _, rfl, fun j h => by omega, 0, rfl⟩
  case round =>
    obtain ⟨k, hk1, hk2, rfl, hall, nw, rfl⟩ := hrel
    have HK : Hid (∀ j, j < k → (a.data.toList.map N).getD j 0 = (b.data.toList.map N).getD j 0) := hall
    clear hall
    by_cases hlt1 : k < a.size
    · by_cases hlt2 : k < b.size
      · by_cases hxy : ((a[k]'hlt1).toNat : Int) = ((b[k]'hlt2).toNat : Int)
        · have hn : (((a[k]'hlt1).toNat : Int) != ((b[k]'hlt2).toNat : Int)) = false := by simpa using hxy
          have HB2 : Hid (∀ j, j < k + 1 → (a.data.toList.map N).getD j 0 = (b.data.toList.map N).getD j 0) := fun j h => by
            by_cases e : j = k
            · subst e; rw [bt_map, bt_map, ← HA.out j hlt1, ← HB.out j hlt2, hxy]
            · exact HK.out j (by omega)
          clear hxy
          go_wp2
          go_quiet (fail)
          go_wp2
          go_roundw
          case rel => exact ⟨k + 1, by omega, by omega, by go_num, HB2.out, _, rfl⟩
          case measure => simp [intOf]; omega
        · have hn : (((a[k]'hlt1).toNat : Int) != ((b[k]'hlt2).toNat : Int)) = true := by simpa using hxy
          have HF : Hid (lexL (a.data.toList.map N) (b.data.toList.map N) = decide (((a[k]'hlt1).toNat : Int) < ((b[k]'hlt2).toNat : Int))) := by
            show lexL _ _ = _
            rw [lexL_at k _ _ (by rw [HM.out.1]; exact hlt1) (by rw [HM.out.2]; exact hlt2) HK.out (by rw [bt_map, bt_map, ← HA.out k hlt1, ← HB.out k hlt2]; exact hxy), bt_map, bt_map, ← HA.out k hlt1, ← HB.out k hlt2]
          clear hxy
          go_wp2
          go_quiet (fail)
          go_wp2
          go_quiet (fail)
          go_wp2
          go_ret
          exact ⟨by rw [HF.out]; first | rfl | (simp; done), drewN3 _ _ _ _⟩
      · have HF : Hid (lexL (a.data.toList.map N) (b.data.toList.map N) = decide (a.size < b.size)) := by
          show lexL _ _ = _
          rw [lexL_end k _ _ (by rw [HM.out.1]; exact hk1) (by rw [HM.out.2]; exact hk2) HK.out (.inr (by rw [HM.out.2]; omega)), HM.out.1, HM.out.2]
        go_wp2
        go_ret
        exact ⟨by rw [HF.out]; first | rfl | (simp; done), _, by first | rfl | rw [World.drewN_drewN]⟩
    · have HF : Hid (lexL (a.data.toList.map N) (b.data.toList.map N) = decide (a.size < b.size)) := by
        show lexL _ _ = _
        rw [lexL_end k _ _ (by rw [HM.out.1]; exact hk1) (by rw [HM.out.2]; exact hk2) HK.out (.inl (by rw [HM.out.1]; omega)), HM.out.1, HM.out.2]
      go_wp2
      go_ret
      exact ⟨by rw [HF.out]; first | rfl | (simp; done), _, by first | rfl | rw [World.drewN_drewN]⟩

set_option maxHeartbeats 2000000 in
theorem RefLess_any (va vb : Value) (xs ys : List Int) (w : World) (h1 : Row w va xs) (h2 : Row w vb ys) (hx : xs.length ≤ 9223372036854775807) (hy : ys.length ≤ 9223372036854775807) :
    Calls Tryd.prog 17 #[va, vb] w fun e w' => e = .returned (.bool (lexL xs ys)) ∧ ∃ n, w' = w.drewN n := by
  obtain ⟨ao1, cap1, rfl, hc1⟩ := h1
  obtain ⟨ao2, cap2, rfl, hc2⟩ := h2
  have HC1 : Hid (0 < xs.length → ∃ b off, ao1 = some ⟨b, off, none⟩ ∧ ∀ i, i < xs.length → w.cell? ⟨b, off + i, none⟩ = some (.int .i32 (xs.getD i 0))) := hc1
  have HC2 : Hid (0 < ys.length → ∃ b off, ao2 = some ⟨b, off, none⟩ ∧ ∀ i, i < ys.length → w.cell? ⟨b, off + i, none⟩ = some (.int .i32 (ys.getD i 0))) := hc2
  clear hc1 hc2
  go_enter Tryd.func17, Tryd.ntmps17
  go_wp2
  go_loopw [5] (fun i wr => ∃ k : Nat, k ≤ xs.length ∧ k ≤ ys.length ∧ i = .int .i64 k ∧ (∀ j, j < k → xs.getD j 0 = ys.getD j 0) ∧ ∃ n, wr = w.drewN n) (fun i _ => xs.length - (intOf i).toNat)
  case atStart => exact ⟨0, Nat.zero_le _, Nat.zero_le _, rfl, fun j h => by omega, 0, rfl⟩
  case round =>
    obtain ⟨k, hk1, hk2, rfl, hall, nw, rfl⟩ := hrel
    have HK : Hid (∀ j, j < k → xs.getD j 0 = ys.getD j 0) := hall
    clear hall
    by_cases hlt1 : k < xs.length
    · by_cases hlt2 : k < ys.length
      · obtain ⟨g1, off1, rfl, hc1⟩ := HC1.out (by omega)
        obtain ⟨g2, off2, rfl, hc2⟩ := HC2.out (by omega)
        have hck1 := hc1 k hlt1
        have hck2 := hc2 k hlt2
        clear hc1 hc2
        generalize hx' : xs.getD k 0 = x at *
        generalize hy' : ys.getD k 0 = y at *
        have HX : Hid (xs.getD k 0 = x) := hx'
        have HY : Hid (ys.getD k 0 = y) := hy'
        clear hx' hy'
        by_cases hxy : x = y
        · subst hxy
          have HB2 : Hid (∀ j, j < k + 1 → xs.getD j 0 = ys.getD j 0) := fun j h => by
            by_cases e : j = k
            · subst e; rw [HX.out, HY.out]
            · exact HK.out j (by omega)
          go_wp2
          go_quiet (fail)
          go_wp2
          go_roundw
          case rel => exact ⟨k + 1, by omega, by omega, by go_num, HB2.out, _, rfl⟩
          case measure => simp [intOf]; omega
        · have hn : (x != y) = true := by simpa using hxy
          have HF : Hid (lexL xs ys = decide (x < y)) := by
            show lexL _ _ = _
            rw [lexL_at k xs ys hlt1 hlt2 HK.out (by rw [HX.out, HY.out]; exact hxy), HX.out, HY.out]
          clear hxy
          go_wp2
          go_quiet (fail)
          go_wp2
          go_quiet (fail)
          go_wp2
          go_ret
          exact ⟨by rw [HF.out]; first | rfl | (simp; done), drewN3 _ _ _ _⟩
      · have HF : Hid (lexL xs ys = decide (xs.length < ys.length)) := lexL_end k xs ys hk1 hk2 HK.out (.inr (by omega))
        go_wp2
        go_ret
        exact ⟨by rw [HF.out]; first | rfl | (simp; done), _, by first | rfl | rw [World.drewN_drewN]⟩
    · have HF : Hid (lexL xs ys = decide (xs.length < ys.length)) := lexL_end k xs ys hk1 hk2 HK.out (.inl (by omega))
      go_wp2
      go_ret
      exact ⟨by rw [HF.out]; first | rfl | (simp; done), _, by first | rfl | rw [World.drewN_drewN]⟩
end Go.Proofs.YtoikilbndhjfcaaDoor
