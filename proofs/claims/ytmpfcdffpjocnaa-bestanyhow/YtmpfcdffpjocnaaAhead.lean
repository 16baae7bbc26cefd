/- The reference's Ahead: which of two words is ahead. -/
import Derived.Test.YtmpfcdffpjocnaaPBase
import Derived.Test.YtmpfcdffpjocnaaLex
import Derived.Deep.QuietTactic
import Derived.BigQuiet
namespace Go.Proofs.Ytmpfcdffpjocnaa
open Go.RowKit Nums
set_option maxRecDepth 100000

theorem drewN3 (w : World) (a b c : Nat) : ∃ n, ((w.drewN a).drewN b).drewN c = w.drewN n := ⟨a + (b + c), by rw [World.drewN_drewN, World.drewN_drewN]⟩
set_option maxHeartbeats 2000000 in
theorem Ahead_any (a b : ByteArray) (w : World) (ha : a.size ≤ 9223372036854775807) (_ : b.size ≤ 9223372036854775807) :
    Calls Try.prog 22 #[.string a, .string b] w fun e w' => e = .returned (.bool (lexL (a.data.toList.map N) (b.data.toList.map N))) ∧ ∃ n, w' = w.drewN n := by
  have HA : Hid (∀ i (h : i < a.size), ((a[i]'h).toNat : Int) = bt a.data.toList i) := bt_get a
  have HB : Hid (∀ i (h : i < b.size), ((b[i]'h).toNat : Int) = bt b.data.toList i) := bt_get b
  have HM : Hid ((a.data.toList.map N).length = a.size ∧ (b.data.toList.map N).length = b.size) := ⟨by rw [List.length_map, size_length], by rw [List.length_map, size_length]⟩
  go_enter Try.func22, Try.ntmps22
  go_wp2
  go_loopw [5] (fun i wr => ∃ k : Nat, k ≤ a.size ∧ k ≤ b.size ∧ i = .int .i64 k ∧ (∀ j, j < k → (a.data.toList.map N).getD j 0 = (b.data.toList.map N).getD j 0) ∧ ∃ n, wr = w.drewN n) (fun i _ => a.size - (intOf i).toNat)
  case atStart => exact ⟨0, Nat.zero_le _, Nat.zero_le _, rfl, fun j h => by omega, 0, rfl⟩
  case round =>
    obtain ⟨k, hk1, hk2, rfl, hall, nw, rfl⟩ := hrel
    have HK : Hid (∀ j, j < k → (a.data.toList.map N).getD j 0 = (b.data.toList.map N).getD j 0) := hall
    clear hall
    by_cases hlt1 : k < a.size
    · by_cases hlt2 : k < b.size
      · by_cases hxy : ((a[k]'hlt1).toNat : Int) = ((b[k]'hlt2).toNat : Int)
        · have hn : (((a[k]'hlt1).toNat : Int) != ((b[k]'hlt2).toNat : Int)) = false := by simpa using hxy
          have HB2 : Hid (∀ j, j < k + 1 → (a.data.toList.map N).getD j 0 = (b.data.toList.map N).getD j 0) := fun j h => by
            by_cases e : j = k
            · subst e; rw [bt_map, bt_map, ← HA.out j hlt1, ← HB.out j hlt2, hxy]
            · exact HK.out j (by omega)
          clear hxy
          go_wp2
          go_quiet (fail)
          go_wp2
          go_roundw
          case rel => exact ⟨k + 1, by omega, by omega, by go_num, HB2.out, _, rfl⟩
          case measure => simp [intOf]; omega
        · have hn : (((a[k]'hlt1).toNat : Int) != ((b[k]'hlt2).toNat : Int)) = true := by simpa using hxy
          have HF : Hid (lexL (a.data.toList.map N) (b.data.toList.map N) = decide (((a[k]'hlt1).toNat : Int) < ((b[k]'hlt2).toNat : Int))) := by
            show lexL _ _ = _
            rw [lexL_at k _ _ (by rw [HM.out.1]; exact hlt1) (by rw [HM.out.2]; exact hlt2) HK.out (by rw [bt_map, bt_map, ← HA.out k hlt1, ← HB.out k hlt2]; exact hxy), bt_map, bt_map, ← HA.out k hlt1, ← HB.out k hlt2]
          clear hxy
          go_wp2
          go_quiet (fail)
          go_wp2
          go_quiet (fail)
          go_wp2
          go_ret
          exact ⟨by rw [HF.out]; first | rfl | (simp; done), drewN3 _ _ _ _⟩
      · have HF : Hid (lexL (a.data.toList.map N) (b.data.toList.map N) = decide (a.size < b.size)) := by
          show lexL _ _ = _
          rw [lexL_end k _ _ (by rw [HM.out.1]; exact hk1) (by rw [HM.out.2]; exact hk2) HK.out (.inr (by rw [HM.out.2]; omega)), HM.out.1, HM.out.2]
        go_wp2
        go_ret
        exact ⟨by rw [HF.out]; first | rfl | (simp; done), _, by first | rfl | rw [World.drewN_drewN]⟩
    · have HF : Hid (lexL (a.data.toList.map N) (b.data.toList.map N) = decide (a.size < b.size)) := by
        show lexL _ _ = _
        rw [lexL_end k _ _ (by rw [HM.out.1]; exact hk1) (by rw [HM.out.2]; exact hk2) HK.out (.inl (by rw [HM.out.1]; omega)), HM.out.1, HM.out.2]
      go_wp2
      go_ret
      exact ⟨by rw [HF.out]; first | rfl | (simp; done), _, by first | rfl | rw [World.drewN_drewN]⟩

theorem ahead_any (a b : ByteArray) (w : World) (ha : a.size ≤ 9223372036854775807) (hb : b.size ≤ 9223372036854775807) :
    Calls Try.prog 22 #[.string a, .string b] w fun e w' => e = .returned (.bool (lessB a b)) ∧ ∃ n, w' = w.drewN n := by
  have h := Ahead_any a b w ha hb
  rw [← less_lex] at h
  exact h
end Go.Proofs.Ytmpfcdffpjocnaa
