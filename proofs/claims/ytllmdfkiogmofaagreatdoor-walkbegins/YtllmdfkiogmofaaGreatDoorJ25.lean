/- Texts that were written apart, joined. -/
import Derived.Test.YtllmdfkiogmofaaGreatDoorJ3
import Derived.Deep.QuietTactic
import Derived.BigQuiet
import Derived.Laws.StructEq
import Derived.Handy
import Derived.Below
import Derived.Test.YtllmdfkiogmofaaGreatDoorWkTd
/- The reference's Same at pairs. -/
namespace Go.Proofs.YtllmdfkiogmofaaGreatDoor
open Go.RowKit Pm Go.Lib
set_option maxRecDepth 100000

theorem same_take {l m : List Pr} {k : Nat} {x y : Pr} (h : l.take k = m.take k) (hx : l[k]? = some x) (hy : m[k]? = some y) (e : x = y) : l.take (k + 1) = m.take (k + 1) := by
  obtain ⟨h1, e1⟩ := List.getElem?_eq_some_iff.1 hx
  obtain ⟨h2, e2⟩ := List.getElem?_eq_some_iff.1 hy
  rw [List.take_succ_eq_append_getElem h1, List.take_succ_eq_append_getElem h2, e1, e2, h, e]
set_option maxHeartbeats 4000000 in
theorem same6_any (w : World) (u v : Value) (l m : List Pr) (h1 : PRow w u l) (h2 : PRow w v m) (hl : l.length < 549755813888) (hm : m.length < 549755813888) :
    Calls Tryz.prog 14 #[u, v] w fun e w' => e = .returned (.bool (decide (l = m))) ∧ ∃ q, w' = w.drewN q := by
  obtain ⟨ad1, cap1, rfl⟩ : ∃ ad cap, u = .slice ad l.length cap := by obtain ⟨ad, cap, rfl, _⟩ := h1; exact ⟨ad, cap, rfl⟩
  obtain ⟨ad2, cap2, rfl⟩ : ∃ ad cap, v = .slice ad m.length cap := by obtain ⟨ad, cap, rfl, _⟩ := h2; exact ⟨ad, cap, rfl⟩
  have HR1 : Hid (PRow w (.slice ad1 l.length cap1) l) := h1
  have HR2 : Hid (PRow w (.slice ad2 m.length cap2) m) := h2
  obtain ⟨F, hF⟩ : ∃ F, decide (l = m) = F := ⟨_, rfl⟩
  have HF : Hid (decide (l = m) = F) := hF
  obtain ⟨n1, hn1⟩ : ∃ n, l.length = n := ⟨_, rfl⟩
  obtain ⟨n2, hn2⟩ : ∃ n, m.length = n := ⟨_, rfl⟩
  have HN : Hid (l.length = n1 ∧ m.length = n2) := ⟨hn1, hn2⟩
  rw [hn1] at HR1 hl
  rw [hn2] at HR2 hm
  rw [hn1, hn2, hF]
  clear h1 h2 hn1 hn2 hF
  by_cases hne : n1 = n2
  · subst hne
    have hneb : ((n1 : Int) == (n1 : Int)) = true := beq_self_eq_true _
    go_enter Tryz.func14, Tryz.ntmps14
    go_wp2
    go_loopg [5] n1 (fun g s5 wr => ∃ (k q : Nat), s5 = .int .i64 k ∧ k ≤ n1 ∧ n1 - k ≤ g ∧ wr = w.drewN q ∧ Hid (l.take k = m.take k))
    case atStart => exact ⟨0, 0, rfl, Nat.zero_le _, by omega, rfl, by show _ = _; simp⟩
    case round =>
      obtain ⟨k, q, rfl, hk, hg, hwr, HK⟩ := hrel
      by_cases hlt : k < n1
      · have hltz : (k : Int) < (n1 : Int) := by omega
        obtain ⟨x, hx⟩ : ∃ x, l[k]? = some x := ⟨l[k]'(by have := HN.out; omega), List.getElem?_eq_getElem _⟩
        obtain ⟨y, hy⟩ : ∃ y, m[k]? = some y := ⟨m[k]'(by have := HN.out; omega), List.getElem?_eq_getElem _⟩
        obtain ⟨b1, off1, rfl, hb1, hc1⟩ := HR1.out.at (by omega)
        obtain ⟨b2, off2, rfl, hb2, hc2⟩ := HR2.out.at (by omega)
        obtain ⟨c0, c1⟩ := hc1 k x hx
        obtain ⟨d0, d1⟩ := hc2 k y hy
        have c0' : wr.cell? ⟨b1, off1 + k * 2, none⟩ = some (.string x.1) := by rw [hwr]; exact c0
        have c1' : wr.cell? ⟨b1, off1 + k * 2 + 1, none⟩ = some (.int .i64 x.2) := by rw [hwr]; exact c1
        have d0' : wr.cell? ⟨b2, off2 + k * 2, none⟩ = some (.string y.1) := by rw [hwr]; exact d0
        have d1' : wr.cell? ⟨b2, off2 + k * 2 + 1, none⟩ = some (.int .i64 y.2) := by rw [hwr]; exact d1
        have HW : Hid (wr = w.drewN q) := hwr
        have HX : Hid (l[k]? = some x ∧ m[k]? = some y) := ⟨hx, hy⟩
        clear c0 c1 d0 d1 hc1 hc2 hx hy hwr
        by_cases e1 : x.1 = y.1
        · have s1 : (x.1.toList == y.1.toList) = true := by rw [strEq]; exact decide_eq_true e1
          by_cases e2 : x.2 = y.2
          · have s2 : (x.2 == y.2) = true := beq_iff_eq.2 e2
            have HK2 : Hid (l.take (k + 1) = m.take (k + 1)) := same_take HK.out HX.out.1 HX.out.2 (Prod.ext e1 e2)
            clear e1 e2
            go_wp2_with fail
            go_quiet (fail)
            go_wp2_with fail
            go_roundg (n1 - (k + 1))
            case measure => omega
            case rel => exact ⟨k + 1, q + nq, by go_num, by omega, Nat.le_refl _, by rw [HW.out, World.drewN_drewN], HK2⟩
          · have s2 : (x.2 == y.2) = false := beq_eq_false_iff_ne.2 e2
            have HE : Hid (F = false) := by
              show _ = _
              rw [← HF.out]
              refine decide_eq_false fun e => e2 ?_
              have h1 := HX.out.1
              rw [e, HX.out.2] at h1
              rw [Option.some.inj h1]
            clear e1 e2
            go_wp2_with fail
            go_quiet (fail)
            go_wp2_with fail
            go_ret
            exact ⟨by rw [HE.out]; rfl, q + nq, by rw [HW.out, World.drewN_drewN]⟩
        · have s1 : (x.1.toList == y.1.toList) = false := by rw [strEq]; exact decide_eq_false e1
          have HE : Hid (F = false) := by
            show _ = _
            rw [← HF.out]
            refine decide_eq_false fun e => e1 ?_
            have h1 := HX.out.1
            rw [e, HX.out.2] at h1
            rw [Option.some.inj h1]
          clear e1
          go_wp2_with fail
          go_quiet (fail)
          go_wp2_with fail
          go_ret
          exact ⟨by rw [HE.out]; rfl, q + nq, by rw [HW.out, World.drewN_drewN]⟩
      · have hltz : ¬ (k : Int) < (n1 : Int) := by omega
        have HE : Hid (F = true) := by
          show _ = _
          rw [← HF.out]
          refine decide_eq_true ?_
          have h := HK.out
          rwa [List.take_of_length_le (by have := HN.out; omega), List.take_of_length_le (by have := HN.out; omega)] at h
        go_wp2
        go_ret
        exact ⟨by rw [HE.out]; rfl, q, rfl⟩
  · have hneb : ((n1 : Int) == (n2 : Int)) = false := beq_eq_false_iff_ne.2 (by omega)
    have HE : Hid (F = false) := by
      show _ = _
      rw [← HF.out]
      refine decide_eq_false fun e => hne ?_
      rw [← HN.out.1, ← HN.out.2, e]
    go_enter Tryz.func14, Tryz.ntmps14
    go_wp2
    go_ret
    exact ⟨by rw [HE.out]; rfl, 0, rfl⟩
end Go.Proofs.YtllmdfkiogmofaaGreatDoor

/- Cut: what the seat's translation lacks is left out. -/
/- WalkAll: the law's own walk. -/
namespace Go.Proofs.YtllmdfkiogmofaaGreatDoor
open Go.RowKit Nums Fm Pk Pm
set_option maxRecDepth 100000

/-- What told says of an iterator's value. -/
def ToldSays (fv : Value) (w1 : World) (L : List Pr) : Prop := ∀ W, Below w1.heap.size w1 W → ∀ most : Int, most ≤ 1048576 → Calls Tryz.prog 15 #[fv, .int .i64 most] W fun e w' => ∃ ad n cap, e = .returned (.slice ad n cap) ∧ PRow w' (.slice ad n cap) (L.take most.toNat) ∧ Below W.heap.size W w'
set_option maxHeartbeats 1000000 in
theorem All_any (w : World) (wb : Nat) (l : List Pr) (h : WkOn w wb l) :
    Calls Tryz.prog 16 #[.pointer (some ⟨wb, 0, none⟩)] w fun e w' => ∃ c0 c1, e = .returned (.func (.func 69) #[] #[.pointer (some ⟨c0, 0, none⟩), .pointer (some ⟨c1, 0, none⟩)]) ∧ Below w.heap.size w w' ∧ ToldSays (.func (.func 69) #[] #[.pointer (some ⟨c0, 0, none⟩), .pointer (some ⟨c1, 0, none⟩)]) w' l := by
  have HFR : Hid (Calls Tryz.prog 38 #[.pointer (some ⟨wb, 0, none⟩), .int .i64 0] w fun e w' => ∃ c0 c1, e = .returned (.func (.func 69) #[] #[.pointer (some ⟨c0, 0, none⟩), .pointer (some ⟨c1, 0, none⟩)]) ∧ Below w.heap.size w w' ∧ ToldSays (.func (.func 69) #[] #[.pointer (some ⟨c0, 0, none⟩), .pointer (some ⟨c1, 0, none⟩)]) w' l) := by
    refine (from_any wb 0 w).mono ?_
    rintro e w' ⟨rfl, t1, t2, hw'⟩
    have hb : Below w.heap.size w w' := by rw [hw']; exact ((Below.refl _ w).alloc (Nat.le_refl _) _).alloc (by simp) _
    have hcw : w'.cell? ⟨w.heap.size, 0, none⟩ = some (.pointer (some ⟨wb, 0, none⟩)) := by rw [hw']; simp
    have hci : w'.cell? ⟨w.heap.size + 1, 0, none⟩ = some (.int .i64 ((0 : Nat) : Int)) := by rw [hw']; simp
    have hsz : w'.heap.size = w.heap.size + 2 := by rw [hw']; simp
    refine ⟨_, _, rfl, hb, fun W hW most hm => ?_⟩
    have hwb : wb < w.heap.size := by obtain ⟨D, _, _, hWk⟩ := h.at'; exact hWk.lt
    have hbW : Below w.heap.size w W := hb.trans (hW.mono hb.size)
    have := toldF_any W _ _ _ _ most hm (from_seq w wb l h w.heap.size (w.heap.size + 1) 0 (by omega)) (fun W' A hW' hA => ⟨hbW.trans (hW'.mono hbW.size), fun j hj => Nat.le_trans hbW.size (hA j hj), (hW'.cell (p := ⟨w.heap.size, 0, none⟩) (by show w.heap.size < _; have := hW.size; omega)).trans ((hW.cell (p := ⟨w.heap.size, 0, none⟩) (by show w.heap.size < _; omega)).trans hcw), (hW'.cell (p := ⟨w.heap.size + 1, 0, none⟩) (by show w.heap.size + 1 < _; have := hW.size; omega)).trans ((hW.cell (p := ⟨w.heap.size + 1, 0, none⟩) (by show w.heap.size + 1 < _; omega)).trans hci), fun ha => by have h1 := hA _ ha; have h2 := hW.size; omega⟩)
    rw [List.drop_zero] at this
    exact this
  clear h
  go_enter Tryz.func16, Tryz.ntmps16
  go_wp2_with (go_at_call 38; refine HFR.out.mono ?_; rintro e w1 ⟨c0, c1, rfl, hb1, hts⟩; have HTS : Hid _ := hts; clear hts)
  go_ret
  exact ⟨c0, c1, rfl, hb1, HTS.out⟩
theorem PRow.take {w : World} {ad : Option Addr} {n cap k : Nat} {l : List Pr} (h : PRow w (.slice ad n cap) l) (hk : k ≤ n) : PRow w (.slice ad k cap) (l.take k) := by
  obtain ⟨ad', cap', e, hc⟩ := h
  simp only [Value.slice.injEq] at e
  obtain ⟨rfl, h2, rfl⟩ := e
  refine ⟨ad, cap, by rw [List.length_take]; congr 1; omega, fun h0 => ?_⟩
  rw [List.length_take] at h0
  obtain ⟨g, off, rfl, hg, hx⟩ := hc (by omega)
  refine ⟨g, off, rfl, hg, fun i x hi => hx i x ?_⟩
  have hlt := (List.getElem?_eq_some_iff.1 hi).1
  rw [List.length_take] at hlt
  rwa [List.getElem?_take_of_lt (by omega)] at hi
theorem wrap_n1 {n : Nat} (h : n ≤ 300) : IntKind.i64.wrap ((n : Int) + 1) = (n : Int) + 1 := by
  first | exact wrap_small _ (by omega) (by omega) | (rw [IntKind.wrap_i64]; exact IntWalk.wrap64_in _ (by omega)) | (rw [IntKind.wrap_i64]; unfold wrap64; omega)
def STr (_ : World) : Prop := True
theorem STr.facts {W : World} (_ : STr W) : True := trivial
end Go.Proofs.YtllmdfkiogmofaaGreatDoor
