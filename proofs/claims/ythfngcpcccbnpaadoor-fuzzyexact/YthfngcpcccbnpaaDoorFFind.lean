/- The reference's Find of layer 6; what a dictionary's list and its machine say of a word. -/
import Derived.Test.YthfngcpcccbnpaaDoorG7
import Derived.Test.YthfngcpcccbnpaaDoorJ7
import Derived.Test.YthfngcpcccbnpaaDoorG8
namespace Go.Proofs.YthfngcpcccbnpaaDoor
open Go.RowKit Nums Fm
set_option maxRecDepth 100000

theorem take_succ_at {l : List Pr} {k : Nat} {x : Pr} (h : l[k]? = some x) : l.take (k + 1) = l.take k ++ [x] := by
  rw [List.take_add_one, h]; rfl
set_option maxHeartbeats 2000000 in
theorem refFind_any (w : World) (v : Value) (l : List Pr) (s : ByteArray) (h : PRow w v l) (hl : l.length ≤ 9223372036854775807) :
    Calls Tryd.prog 13 #[v, .string s] w fun e w' => e = .returned (.tuple #[.int .i64 ((Pm.find l s).getD 0), .bool (Pm.find l s).isSome]) ∧ w' = w := by
  obtain ⟨ad, cap, rfl⟩ := h.form
  have HR : Hid (PRow w (.slice ad l.length cap) l) := h
  obtain ⟨n, hn⟩ : ∃ n, l.length = n := ⟨_, rfl⟩
  have HN : Hid (l.length = n) := hn
  obtain ⟨F, hF⟩ : ∃ F, Pm.find l s = F := ⟨_, rfl⟩
  have HF : Hid (Pm.find l s = F) := hF
  rw [hn] at HR hl
  clear h
  rw [hn, hF]
  clear hn hF
  go_enter Tryd.func13, Tryd.ntmps13
  go_wp2
  go_loopg [6] n (fun g s6 wr => ∃ (k : Nat), s6 = .int .i64 ((k : Int) - 1) ∧ k ≤ n ∧ k ≤ g ∧ wr = w ∧ Hid (Pm.find (l.take k) s = F))
  case atStart => exact ⟨n, rfl, Nat.le_refl _, Nat.le_refl _, rfl, by show _ = _; rw [List.take_of_length_le (by have := HN.out; omega)]; exact HF.out⟩
  case round =>
    obtain ⟨k, rfl, hk, hg, rfl, HK⟩ := hrel
    cases k with
    | zero =>
      have HE : Hid (F = none) := by show _ = _; rw [← HK.out]; rfl
      go_wp2
      go_ret2
      rw [HE.out]
      exact ⟨rfl, rfl⟩
    | succ k =>
      have e1 : ((k + 1 : Nat) : Int) - 1 = (k : Int) := by omega
      obtain ⟨x, hx⟩ : ∃ x, l[k]? = some x := ⟨l[k]'(by have := HN.out; omega), List.getElem?_eq_getElem _⟩
      obtain ⟨b, off, rfl, hb, hcell⟩ := HR.out.at (by omega)
      obtain ⟨c0, c1⟩ := hcell k x hx
      have hstep : Pm.find (l.take (k + 1)) s = if x.1 = s then some x.2 else Pm.find (l.take k) s := by rw [take_succ_at hx, Pm.find_snoc]
      have hk0 : (0 : Int) ≤ (k : Int) := by omega
      have hkn : (k : Int) < (n : Int) := by omega
      have ekn : (k : Int).toNat = k := by omega
      clear hx hcell
      by_cases hxs : x.1 = s
      · have hs : (x.1.toList == s.toList) = true := by rw [strEq]; exact decide_eq_true hxs
        have HE : Hid (F = some x.2) := by show _ = _; rw [← HK.out, hstep, if_pos hxs]
        clear hxs hstep
        go_wp2
        go_ret2
        rw [HE.out]
        exact ⟨rfl, rfl⟩
      · have hs : (x.1.toList == s.toList) = false := by rw [strEq]; exact decide_eq_false hxs
        have HE : Hid (Pm.find (l.take k) s = F) := by show _ = _; rw [← HK.out, hstep, if_neg hxs]
        clear hxs hstep
        go_wp2
        go_roundg k
        case measure => omega
        case rel => exact ⟨k, by first | rfl | go_num, by omega, Nat.le_refl _, rfl, HE⟩
end Go.Proofs.YthfngcpcccbnpaaDoor
