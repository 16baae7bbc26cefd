/- pairs.lastOfEach. -/
import Derived.Test.YtjanhebckonbaaaDoorPRows
import Derived.Deep.QuietTactic
import Derived.BigQuiet
namespace Go.Proofs.YtjanhebckonbaaaDoor
open Go.RowKit Go.Shelf Go.Lib Go.Sort Pm
set_option maxRecDepth 100000

theorem lastE_end (x : Pr) : lastE [x] = [x] := rfl
theorem lastE_same {x y : Pr} (r : List Pr) (h : y.1 = x.1) : lastE (x :: y :: r) = lastE (y :: r) := by rw [lastE, if_pos h]
theorem lastE_new {x y : Pr} (r : List Pr) (h : ¬ y.1 = x.1) : lastE (x :: y :: r) = x :: lastE (y :: r) := by rw [lastE, if_neg h]
theorem drop_at (l : List Pr) (k : Nat) (x : Pr) (h : l[k]? = some x) : l.drop k = x :: l.drop (k + 1) := by
  obtain ⟨hk, e⟩ := List.getElem?_eq_some_iff.1 h
  rw [List.drop_eq_getElem_cons hk, e]
set_option maxHeartbeats 4000000 in
theorem lastOfEach_any (w : World) (v : Value) (l : List Pr) (h : PRow w v l) (hl : l.length < 549755813888) :
    Calls Tryd.prog 38 #[v] w fun e w' => ∃ v', e = .returned v' ∧ POwn w.heap.size w' v' (lastE l) ∧ Below w.heap.size w w' := by
  obtain ⟨ad, cap, rfl⟩ : ∃ ad cap, v = .slice ad l.length cap := by obtain ⟨ad, cap, rfl, _⟩ := h; exact ⟨ad, cap, rfl⟩
  have HR : Hid (PRow w (.slice ad l.length cap) l) := h
  obtain ⟨n, hn⟩ : ∃ n, l.length = n := ⟨_, rfl⟩
  have HN : Hid (l.length = n) := hn
  rw [hn] at HR hl
  clear h
  rw [hn]
  clear hn
  go_enter Tryd.func38, Tryd.ntmps38
  go_wp2
  go_loopg [3, 4, 5, 8] n (fun g s3 _ _ s8 wr => ∃ (k : Nat) (acc : List Pr), s8 = .int .i64 k ∧ k ≤ n ∧ n - k ≤ g ∧ Hid (POwn w.heap.size wr s3 acc) ∧ Hid (Below w.heap.size w wr) ∧ Hid (acc.length ≤ k) ∧ Hid (acc ++ lastE (l.drop k) = lastE l))
  case atStart => exact ⟨0, [], rfl, Nat.zero_le _, by omega, POwn.nil _ _, Below.refl _ _, Nat.le_refl _, by show _ = _; simp⟩
  case round =>
    obtain ⟨k, acc, rfl, hk, hg, HO, HB, HACC, HE⟩ := hrel

    by_cases hlt : k < n
    · have hltz : (k : Int) < (n : Int) := by omega
      obtain ⟨x, hx⟩ : ∃ x, l[k]? = some x := ⟨l[k]'(by have := HN.out; omega), List.getElem?_eq_getElem _⟩
      obtain ⟨b, off, rfl, hb, hcell⟩ := (HR.out.below HB.out).at (by omega)
      obtain ⟨c0, c1⟩ := hcell k x hx
      have HX : Hid (l[k]? = some x) := hx
      have HD : Hid (l.drop k = x :: l.drop (k + 1)) := drop_at l k x hx
      have rk1 : IntKind.i64.wrap ((k : Int) + 1) = (k : Int) + 1 := by rw [IntKind.wrap_i64]; omega
      by_cases hend : k + 1 = n
      · have hendz : ((k : Int) + 1 == (n : Int)) = true := beq_iff_eq.2 (by omega)
        have HE2 : Hid (acc ++ [x] ++ lastE (l.drop (k + 1)) = lastE l) := by
          show _ = _
          rw [← HE.out, HD.out, List.drop_eq_nil_of_le (by have := HN.out; omega)]
          simp [lastE]
        clear hcell hx
        go_wp2_with fail
        go_quiet (fail)
        have hWn : ∀ o : Obj, ((wr.alloc o).drewN nq).heap.size = wr.heap.size + 1 := fun o => by simp
        have HWo : Hid (∀ o : Obj, POwn w.heap.size ((wr.alloc o).drewN nq) u3 acc ∧ Below w.heap.size w ((wr.alloc o).drewN nq)) := fun o => ⟨HO.out.below (belowN ((Below.refl _ wr).alloc (Nat.le_refl _) _) nq), belowN (HB.out.alloc (by have := HB.out.size; omega) _) nq⟩
        go_wp2_with (at_builtin; refine append_x (by rfl) _ _ x _ rfl w.heap.size _ _ _ acc rfl (HWo.out _).1 rfl (hWn _).symm (by have := HACC.out; omega) (HWo.out _).2.size ?_)
        intro v2 w2 hr2 hb2
        have HR2 : Hid (POwn w.heap.size w2 v2 (acc ++ [x])) := hr2
        have HB2 : Hid (Below w.heap.size w w2) := (HWo.out _).2.trans hb2
        clear hr2 hb2
        go_wp2_with fail
        go_roundg (n - (k + 1))
        case measure => omega
        case rel => exact ⟨k + 1, acc ++ [x], by go_num, by omega, Nat.le_refl _, HR2, HB2, by have := HACC.out; show _ ≤ _; simp; omega, HE2⟩
      · have hendz : ((k : Int) + 1 == (n : Int)) = false := beq_eq_false_iff_ne.2 (by omega)
        obtain ⟨y, hy⟩ : ∃ y, l[k + 1]? = some y := ⟨l[k + 1]'(by have := HN.out; omega), List.getElem?_eq_getElem _⟩
        have HD2 : Hid (l.drop (k + 1) = y :: l.drop (k + 1 + 1)) := drop_at l (k + 1) y hy
        obtain ⟨d0, d1⟩ := hcell (k + 1) y hy
        have p1 : (0 : Int) ≤ (k : Int) + 1 := by omega
        have b1 : (k : Int) + 1 < (n : Int) := by omega
        have e1 : ((k : Int) + 1).toNat = k + 1 := by omega
        clear hcell hx hy
        by_cases hyx : y.1 = x.1
        · have hs : (y.1.toList == x.1.toList) = true := by rw [strEq]; exact decide_eq_true hyx
          have HE2 : Hid (acc ++ lastE (l.drop (k + 1)) = lastE l) := by
            show _ = _
            rw [← HE.out, HD.out, HD2.out, lastE_same _ hyx]
          clear hyx
          go_wp2_with fail
          go_quiet (fail)
          go_wp2_with fail
          go_roundg (n - (k + 1))
          case measure => omega
          case rel => exact ⟨k + 1, acc, by go_num, by omega, Nat.le_refl _, HO.out.below (belowN ((Below.refl _ wr).alloc (Nat.le_refl _) _) _), belowN (HB.out.alloc (by have := HB.out.size; omega) _) _, by have := HACC.out; show _ ≤ _; omega, HE2⟩
        · have hs : (y.1.toList == x.1.toList) = false := by rw [strEq]; exact decide_eq_false hyx
          have HE2 : Hid (acc ++ [x] ++ lastE (l.drop (k + 1)) = lastE l) := by
            show _ = _
            rw [← HE.out, HD.out, HD2.out, lastE_new _ hyx]
            simp
          clear hyx
          go_wp2_with fail
          go_quiet (fail)
          have hWn : ∀ o : Obj, ((wr.alloc o).drewN nq).heap.size = wr.heap.size + 1 := fun o => by simp
          have HWo : Hid (∀ o : Obj, POwn w.heap.size ((wr.alloc o).drewN nq) u3 acc ∧ Below w.heap.size w ((wr.alloc o).drewN nq)) := fun o => ⟨HO.out.below (belowN ((Below.refl _ wr).alloc (Nat.le_refl _) _) nq), belowN (HB.out.alloc (by have := HB.out.size; omega) _) nq⟩
          go_wp2_with (at_builtin; refine append_x (by rfl) _ _ x _ rfl w.heap.size _ _ _ acc rfl (HWo.out _).1 rfl (hWn _).symm (by have := HACC.out; omega) (HWo.out _).2.size ?_)
          intro v2 w2 hr2 hb2
          have HR2 : Hid (POwn w.heap.size w2 v2 (acc ++ [x])) := hr2
          have HB2 : Hid (Below w.heap.size w w2) := (HWo.out _).2.trans hb2
          clear hr2 hb2
          go_wp2_with fail
          go_roundg (n - (k + 1))
          case measure => omega
          case rel => exact ⟨k + 1, acc ++ [x], by go_num, by omega, Nat.le_refl _, HR2, HB2, by have := HACC.out; show _ ≤ _; simp; omega, HE2⟩
    · have hltz : ¬ (k : Int) < (n : Int) := by omega
      have HE2 : Hid (acc = lastE l) := by
        show _ = _
        rw [← HE.out, List.drop_eq_nil_of_le (by have := HN.out; omega)]
        simp [lastE]
      go_wp2_with fail
      go_ret
      exact ⟨_, rfl, HE2.out ▸ HO.out, HB.out⟩
end Go.Proofs.YtjanhebckonbaaaDoor
