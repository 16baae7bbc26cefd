/- The reference's Same at pairs. -/
import Derived.Test.YtllmdfkiogmofaaDoorJ3
import Derived.Deep.QuietTactic
import Derived.BigQuiet
import Derived.Laws.StructEq
import Derived.Handy
import Derived.Below
namespace Go.Proofs.YtllmdfkiogmofaaDoor
open Go.RowKit Pm Go.Lib
set_option maxRecDepth 100000

theorem same_take {l m : List Pr} {k : Nat} {x y : Pr} (h : l.take k = m.take k) (hx : l[k]? = some x) (hy : m[k]? = some y) (e : x = y) : l.take (k + 1) = m.take (k + 1) := by
  obtain ⟨h1, e1⟩ := List.getElem?_eq_some_iff.1 hx
  obtain ⟨h2, e2⟩ := List.getElem?_eq_some_iff.1 hy
  rw [List.take_succ_eq_append_getElem h1, List.take_succ_eq_append_getElem h2, e1, e2, h, e]
set_option maxHeartbeats 4000000 in
theorem same_any (w : World) (u v : Value) (l m : List Pr) (h1 : PRow w u l) (h2 : PRow w v m) (hl : l.length < 549755813888) (hm : m.length < 549755813888) :
    Calls Tryd.prog 9 #[u, v] w fun e w' => e = .returned (.bool (decide (l = m))) ∧ ∃ q, w' = w.drewN q := by
  obtain ⟨ad1, cap1, rfl⟩ : ∃ ad cap, u = .slice ad l.length cap := by obtain ⟨ad, cap, rfl, _⟩ := h1; exact ⟨ad, cap, rfl⟩
  obtain ⟨ad2, cap2, rfl⟩ : ∃ ad cap, v = .slice ad m.length cap := by obtain ⟨ad, cap, rfl, _⟩ := h2; exact ⟨ad, cap, rfl⟩
  have HR1 : Hid (PRow w (.slice ad1 l.length cap1) l) := h1
  have HR2 : Hid (PRow w (.slice ad2 m.length cap2) m) := h2
  obtain ⟨F, hF⟩ : ∃ F, decide (l = m) = F := ⟨_, rfl⟩
  have HF : Hid (decide (l = m) = F) := hF
  obtain ⟨n1, hn1⟩ : ∃ n, l.length = n := ⟨_, rfl⟩
  obtain ⟨n2, hn2⟩ : ∃ n, m.length = n := ⟨_, rfl⟩
  have HN : Hid (l.length = n1 ∧ m.length = n2) := ⟨hn1, hn2⟩
  rw [hn1] at HR1 hl
  rw [hn2] at HR2 hm
  rw [hn1, hn2, hF]
  clear h1 h2 hn1 hn2 hF
  by_cases hne : n1 = n2
  · subst hne
    have hneb : ((n1 : Int) == (n1 : Int)) = true := beq_self_eq_true _
    go_enter Tryd.func9, Tryd.ntmps9
    go_wp2
    go_loopg [5] n1 (fun g s5 wr => ∃ (k q : Nat), s5 = .int .i64 k ∧ k ≤ n1 ∧ n1 - k ≤ g ∧ wr = w.drewN q ∧ Hid (l.take k = m.take k))
    case atStart => exact ⟨0, 0, rfl, Nat.zero_le _, by omega, rfl, by show _ = _; simp⟩
    case round =>
      obtain ⟨k, q, rfl, hk, hg, hwr, HK⟩ := hrel
      by_cases hlt : k < n1
      · have hltz : (k : Int) < (n1 : Int) := by omega
        obtain ⟨x, hx⟩ : ∃ x, l[k]? = some x := ⟨l[k]'(by have := HN.out; omega), List.getElem?_eq_getElem _⟩
        obtain ⟨y, hy⟩ : ∃ y, m[k]? = some y := ⟨m[k]'(by have := HN.out; omega), List.getElem?_eq_getElem _⟩
        obtain ⟨b1, off1, rfl, hb1, hc1⟩ := HR1.out.at (by omega)
        obtain ⟨b2, off2, rfl, hb2, hc2⟩ := HR2.out.at (by omega)
        obtain ⟨c0, c1⟩ := hc1 k x hx
        obtain ⟨d0, d1⟩ := hc2 k y hy
        have c0' : wr.cell? ⟨b1, off1 + k * 2, none⟩ = some (.string x.1) := by rw [hwr]; exact c0
        have c1' : wr.cell? ⟨b1, off1 + k * 2 + 1, none⟩ = some (.int .i64 x.2) := by rw [hwr]; exact c1
        have d0' : wr.cell? ⟨b2, off2 + k * 2, none⟩ = some (.string y.1) := by rw [hwr]; exact d0
        have d1' : wr.cell? ⟨b2, off2 + k * 2 + 1, none⟩ = some (.int .i64 y.2) := by rw [hwr]; exact d1
        have HW : Hid (wr = w.drewN q) := hwr
        have HX : Hid (l[k]? = some x ∧ m[k]? = some y) := ⟨hx, hy⟩
        clear c0 c1 d0 d1 hc1 hc2 hx hy hwr
        by_cases e1 : x.1 = y.1
        · have s1 : (x.1.toList == y.1.toList) = true := by rw [strEq]; exact decide_eq_true e1
          by_cases e2 : x.2 = y.2
          · have s2 : (x.2 == y.2) = true := beq_iff_eq.2 e2
            have HK2 : Hid (l.take (k + 1) = m.take (k + 1)) := same_take HK.out HX.out.1 HX.out.2 (Prod.ext e1 e2)
            clear e1 e2
            go_wp2_with fail
            go_quiet (fail)
            go_wp2_with fail
            go_roundg (n1 - (k + 1))
            case measure => omega
            case rel => exact ⟨k + 1, q + nq, by go_num, by omega, Nat.le_refl _, by rw [HW.out, World.drewN_drewN], HK2⟩
          · have s2 : (x.2 == y.2) = false := beq_eq_false_iff_ne.2 e2
            have HE : Hid (F = false) := by
              show _ = _
              rw [← HF.out]
              refine decide_eq_false fun e => e2 ?_
              have h1 := HX.out.1
              rw [e, HX.out.2] at h1
              rw [Option.some.inj h1]
            clear e1 e2
            go_wp2_with fail
            go_quiet (fail)
            go_wp2_with fail
            go_ret
            exact ⟨by rw [HE.out]; rfl, q + nq, by rw [HW.out, World.drewN_drewN]⟩
        · have s1 : (x.1.toList == y.1.toList) = false := by rw [strEq]; exact decide_eq_false e1
          have HE : Hid (F = false) := by
            show _ = _
            rw [← HF.out]
            refine decide_eq_false fun e => e1 ?_
            have h1 := HX.out.1
            rw [e, HX.out.2] at h1
            rw [Option.some.inj h1]
          clear e1
          go_wp2_with fail
          go_quiet (fail)
          go_wp2_with fail
          go_ret
          exact ⟨by rw [HE.out]; rfl, q + nq, by rw [HW.out, World.drewN_drewN]⟩
      · have hltz : ¬ (k : Int) < (n1 : Int) := by omega
        have HE : Hid (F = true) := by
          show _ = _
          rw [← HF.out]
          refine decide_eq_true ?_
          have h := HK.out
          rwa [List.take_of_length_le (by have := HN.out; omega), List.take_of_length_le (by have := HN.out; omega)] at h
        go_wp2
        go_ret
        exact ⟨by rw [HE.out]; rfl, q, rfl⟩
  · have hneb : ((n1 : Int) == (n2 : Int)) = false := beq_eq_false_iff_ne.2 (by omega)
    have HE : Hid (F = false) := by
      show _ = _
      rw [← HF.out]
      refine decide_eq_false fun e => hne ?_
      rw [← HN.out.1, ← HN.out.2, e]
    go_enter Tryd.func9, Tryd.ntmps9
    go_wp2
    go_ret
    exact ⟨by rw [HE.out]; rfl, 0, rfl⟩
end Go.Proofs.YtllmdfkiogmofaaDoor
