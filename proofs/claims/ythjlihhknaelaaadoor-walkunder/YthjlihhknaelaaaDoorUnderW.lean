/- WalkUnder: the law's own walk. -/
import Derived.Test.YthjlihhknaelaaaDoorWkUn3
import Derived.Test.YthjlihhknaelaaaDoorSameP
namespace Go.Proofs.YthjlihhknaelaaaDoor
open Go.RowKit Nums Fm Pk Pm
set_option maxRecDepth 100000

theorem wrap_u1 {n : Nat} (h : n ≤ 300) : IntKind.i64.wrap ((n : Int) + 1) = (n : Int) + 1 := by
  first | exact wrap_small _ (by omega) (by omega) | (rw [IntKind.wrap_i64]; exact IntWalk.wrap64_in _ (by omega)) | (rw [IntKind.wrap_i64]; unfold wrap64; omega)
def udF (l : List Pr) (s : ByteArray) : List Pr := l.filter fun x => hpB x.1 s
theorem udF_in {l : List Pr} {s : ByteArray} {k : Nat} {x : Pr} (hx : l[k]? = some x) (hp : hpB x.1 s = true) : udF (l.take (k + 1)) s = udF (l.take k) s ++ [x] := by
  rw [take_succ_at hx]; simp [udF, hp]
theorem udF_out {l : List Pr} {s : ByteArray} {k : Nat} {x : Pr} (hx : l[k]? = some x) (hp : hpB x.1 s = false) : udF (l.take (k + 1)) s = udF (l.take k) s := by
  rw [take_succ_at hx]; simp [udF, hp]
theorem udF_len (l : List Pr) (s : ByteArray) : (udF l s).length ≤ l.length := List.length_filter_le ..
set_option maxHeartbeats 4000000 in
theorem under_walk (v : Value) (s : ByteArray) (w : World) (ht : Tabs w) (l : List Pr) (h : PRow w v l) (hs : Sm l) (hl : l.length ≤ 9223372036854775807) (_ : s.size ≤ maxLen) :
    Calls Tryd.prog 7 #[v, .string s] w fun e w' => e = .returned (.bool true) ∧ Below w.heap.size w w' := by
  have HAL : Hid (∀ W, Below w.heap.size w W → Calls Tryd.prog 11 #[] W fun e w' => e = .returned (.bool true) ∧ Below W.heap.size W w') := fun W hW => alive_any W (ht.below hW)
  cases hb : onB l with
  | false =>
    have HON : Hid (Calls Tryd.prog 10 #[v] w fun e w' => e = .returned (.tuple #[.pointer none, .bool false]) ∧ Below w.heap.size w w') := on_no w v l h hl hs hb
    obtain ⟨ad, cap, rfl⟩ := h.form
    clear h ht hs hb
    go_enter Tryd.func7, Tryd.ntmps7
    go_wp2_with (first
      | (go_at_call 10; refine HON.out.mono ?_; rintro e w1 ⟨rfl, hb1⟩; have HB1 : Hid (Below w.heap.size w w1) := hb1; clear hb1)
      | (go_at_call 11; refine (HAL.out _ HB1.out).mono ?_; rintro e w2 ⟨rfl, hb2⟩))
    go_ret
    exact ⟨rfl, HB1.out.trans (hb2.mono HB1.out.size)⟩
  | true =>
    have HON : Hid (Calls Tryd.prog 10 #[v] w fun e w' => ∃ wb, e = .returned (.tuple #[.pointer (some ⟨wb, 0, none⟩), .bool true]) ∧ w.heap.size ≤ wb ∧ WkOn w' wb l ∧ Below w.heap.size w w') := on_yes w ht v l h hl hs hb
    have hr300 : l.length ≤ 300 := by
      unfold onB at hb
      simp only [Bool.and_eq_true, decide_eq_true_eq] at hb
      exact hb.1
    obtain ⟨ad, cap, rfl⟩ := h.form
    obtain ⟨n, hn⟩ : ∃ n, l.length = n := ⟨_, rfl⟩
    have HN : Hid (l.length = n) := hn
    have HR : Hid (PRow w (.slice ad n cap) l) := by have := h; rw [hn] at this; exact this
    have HUA : Hid (∀ W wb, WkOn W wb l → Calls Tryd.prog 21 #[.pointer (some ⟨wb, 0, none⟩), .string s] W fun e w' => ∃ c0 c1, e = .returned (.func (.func 37) #[] #[.pointer (some ⟨c0, 0, none⟩), .pointer (some ⟨c1, 0, none⟩)]) ∧ Below W.heap.size W w' ∧ Hid (∀ W, Below w'.heap.size w' W → ∀ most : Int, most ≤ 1048576 → Calls Tryd.prog 14 #[.func (.func 37) #[] #[.pointer (some ⟨c0, 0, none⟩), .pointer (some ⟨c1, 0, none⟩)], .int .i64 most] W fun e w'' => ∃ ad n cap, e = .returned (.slice ad n cap) ∧ PRow w'' (.slice ad n cap) ((udF l s).take most.toNat) ∧ Below W.heap.size W w'')) := fun W wb hW => Under_any W wb l hW (by omega) s
    have HTW : Hid ((udF l s).take ((n : Int) + 1).toNat = udF l s) := by show _ = _; exact List.take_of_length_le (by have := udF_len l s; omega)
    have HSM : Hid (∀ W u v, PRow W u (udF l s) → PRow W v (udF l s) → Calls Tryd.prog 13 #[u, v] W fun e w' => e = .returned (.bool true) ∧ Below W.heap.size W w') := fun W u v h1 h2 => by
      have := udF_len l s
      refine (same_any W u v _ _ h1 h2 (by omega) (by omega)).mono ?_
      rintro e2 w' ⟨rfl, q, rfl⟩
      exact ⟨by rw [decide_eq_true rfl], belowN (Below.refl _ _) q⟩
    rw [hn] at HON hr300 ⊢
    clear h ht hs hb hl hn
    go_enter Tryd.func7, Tryd.ntmps7
    go_wp2_with (go_at_call 10; refine HON.out.mono ?_; rintro e w1 ⟨wb, rfl, hlo, hon, hb1⟩; have HB1 : Hid (Below w.heap.size w w1) := hb1; have HW : Hid (WkOn w1 wb l) := hon; clear hb1 hon hlo)
    go_loopg [7, 9, 28] n (fun g s7 _ s28 wr => ∃ (k : Nat), s28 = .int .i64 k ∧ k ≤ n ∧ n - k ≤ g ∧ Hid (POwn w1.heap.size wr s7 (udF (l.take k) s)) ∧ Hid (Below w1.heap.size w1 wr))
    case atStart => exact ⟨0, rfl, Nat.zero_le _, by omega, POwn.nil _ _, Below.refl _ _⟩
    case round =>
      obtain ⟨k, rfl, hk, hg, HO, HB⟩ := hrel
      by_cases hlt : k < n
      · have hltz : (k : Int) < (n : Int) := by omega
        obtain ⟨x, hx⟩ : ∃ x, l[k]? = some x := ⟨l[k]'(by have := HN.out; omega), List.getElem?_eq_getElem _⟩
        obtain ⟨b, off, rfl, hb, hcell⟩ := (HR.out.below (HB1.out.trans (HB.out.mono HB1.out.size))).at (by omega)
        obtain ⟨c0, c1⟩ := hcell k x hx
        have HX : Hid (l[k]? = some x) := hx
        clear hcell hx
        by_cases hsz : s.size ≤ x.1.size
        · have hszi : (s.size : Int) ≤ (x.1.size : Int) := by omega
          have HT : Hid (hpB x.1 s = (x.1.data.toList.take s.size == s.data.toList)) := hp_take x.1 s
          have HOa : Hid (∀ T, POwn w1.heap.size (wr.alloc (.cells #[.string x.1, .int .i64 x.2] T)) u7 (udF (l.take k) s) ∧ Below w1.heap.size w1 (wr.alloc (.cells #[.string x.1, .int .i64 x.2] T))) := fun T => ⟨HO.out.below ((Below.refl _ _).alloc (Nat.le_refl _) _), HB.out.alloc HB.out.size _⟩
          have HLN : Hid ((udF (l.take k) s).length ≤ k) := Nat.le_trans (udF_len _ _) (List.length_take_le ..)
          go_wp2_with (at_builtin; refine append_x (by rfl) _ _ x _ rfl w1.heap.size _ _ _ _ rfl (HOa.out _).1 rfl (by simp) (by have := HLN.out; omega) (HOa.out _).2.size ?_; intro v4 w4 hr4 hb4; have HO4 : Hid (POwn w1.heap.size w4 v4 (udF (l.take k) s ++ [x])) := hr4; have HB4 : Hid (Below w1.heap.size w1 w4) := (HOa.out _).2.trans hb4; clear hr4 hb4)
          · have HP : Hid (hpB x.1 s = true) := by show _ = _; rw [HT.out, ← ext_take, ← ByteArray.toList_eq, ← ByteArray.toList_eq]; assumption
            go_roundg (n - (k + 1))
            case measure => omega
            case rel => exact ⟨k + 1, by go_num, by omega, Nat.le_refl _, by show POwn _ _ _ _; rw [udF_in HX.out HP.out]; exact HO4.out, HB4⟩
          · have HP : Hid (hpB x.1 s = false) := by show _ = _; rw [HT.out, ← ext_take, ← ByteArray.toList_eq, ← ByteArray.toList_eq]; assumption
            go_roundg (n - (k + 1))
            case measure => omega
            case rel => exact ⟨k + 1, by go_num, by omega, Nat.le_refl _, by show POwn _ _ _ _; rw [udF_out HX.out HP.out]; exact (HOa.out _).1, (HOa.out _).2⟩
        · have hszi : ¬ (s.size : Int) ≤ (x.1.size : Int) := by omega
          have HF : Hid (hpB x.1 s = false) := hp_short hsz
          go_wp2
          go_roundg (n - (k + 1))
          case measure => omega
          case rel => exact ⟨k + 1, by go_num, by omega, Nat.le_refl _, by show POwn _ _ _ _; rw [udF_out HX.out HF.out]; exact HO.out.below ((Below.refl _ _).alloc (Nat.le_refl _) _), HB.out.alloc HB.out.size _⟩
      · have hltz : ¬ (k : Int) < (n : Int) := by omega
        have HE : Hid (l.take k = l) := List.take_of_length_le (by have := HN.out; omega)
        rw [HE.out] at HO
        have hw1 := wrap_u1 hr300
        go_wp2_with (first
          | (go_at_call 11; refine (HAL.out _ (HB1.out.trans (HB.out.mono HB1.out.size))).mono ?_; rintro e w2 ⟨rfl, hb2⟩; have HB2 : Hid (Below w1.heap.size w1 w2) := HB.out.trans (hb2.mono HB.out.size); have HO2 : Hid (POwn w1.heap.size w2 u7 (udF l s)) := HO.out.below hb2; clear hb2)
          | (go_at_call 21; refine (HUA.out _ _ (HW.out.below HB2.out)).mono ?_; rintro e w4 ⟨d0, d1, rfl, hb4, hts⟩; have HB4 : Hid (Below w1.heap.size w1 w4) := HB2.out.trans (hb4.mono HB2.out.size); have HO4 : Hid (POwn w1.heap.size w4 u7 (udF l s)) := HO2.out.below hb4; clear hb4)
          | (go_at_call 14; refine (hts.out _ (Below.refl _ _) _ (by omega)).mono ?_; rintro e w5 ⟨ad5, n5, cap5, rfl, hr5, hb5⟩; rw [HTW.out] at hr5; have HR5 : Hid (PRow w5 (.slice ad5 n5 cap5) (udF l s)) := hr5; have HB5 : Hid (Below w1.heap.size w1 w5) := HB4.out.trans (hb5.mono HB4.out.size); have HO5 : Hid (POwn w1.heap.size w5 u7 (udF l s)) := HO4.out.below hb5; clear hr5 hb5)
          | (go_at_call 13; refine (HSM.out _ _ _ HR5.out HO5.out.row).mono ?_; rintro e w6 ⟨rfl, hb6⟩; have HB6 : Hid (Below w1.heap.size w1 w6) := HB5.out.trans (hb6.mono HB5.out.size); clear hb6))
        go_ret
        exact ⟨by first | rfl | simp, HB1.out.trans (HB6.out.mono HB1.out.size)⟩
end Go.Proofs.YthjlihhknaelaaaDoor
