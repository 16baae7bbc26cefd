/- slices.DeleteFunc with pairs.takesAway at pairs. -/
import Derived.Test.YtjanhebckonbaaaDoorDel
namespace Go.Proofs.YtjanhebckonbaaaDoor
open Go.RowKit Go.Shelf Go.Lib Go.Sort Pm
set_option maxRecDepth 100000

theorem del_facts {wr w2 : World} {g o : Nat} {y z : Pr} {T : TypeId} (hb : Below (wr.alloc (.cells #[.string y.1, .int .i64 y.2] T)).heap.size (wr.alloc (.cells #[.string y.1, .int .i64 y.2] T)) w2) (hg : g < wr.heap.size) (d0 : wr.cell? ⟨g, o, none⟩ = some (.string z.1)) (d1 : wr.cell? ⟨g, o + 1, none⟩ = some (.int .i64 z.2)) (f0 : wr.frozen? ⟨g, o, none⟩ = false) (f1 : wr.frozen? ⟨g, o + 1, none⟩ = false) :
    w2.cell? ⟨wr.heap.size, 0, none⟩ = some (.string y.1) ∧ w2.cell? ⟨wr.heap.size, 1, none⟩ = some (.int .i64 y.2) ∧ w2.cell? ⟨g, o, none⟩ = some (.string z.1) ∧ w2.cell? ⟨g, o + 1, none⟩ = some (.int .i64 z.2) ∧ w2.frozen? ⟨g, o, none⟩ = false ∧ w2.frozen? ⟨g, o + 1, none⟩ = false := by
  have t := (TwoAt.new wr y T).below (by simp) hb
  have hb3 : Below wr.heap.size wr w2 := ((Below.refl _ wr).alloc (Nat.le_refl _) _).trans (hb.mono (by simp))
  have hblk := hb3.block g hg
  refine ⟨t.c0, t.c1, (hb3.cell (p := ⟨g, o, none⟩) hg).trans d0, (hb3.cell (p := ⟨g, o + 1, none⟩) hg).trans d1, ?_, ?_⟩
  · rw [← f0]; simp [World.frozen?, hblk]
  · rw [← f1]; simp [World.frozen?, hblk]
set_option maxHeartbeats 1000000 in
theorem deleteFunc_any (B : Nat) (w : World) (v : Value) (l : List Pr) (h : POwn B w v l) (hl : l.length < 549755813888) (hB : B ≤ w.heap.size) :
    Calls Tryd.prog 29 #[v, .func (.func 30) #[] #[]] w fun e w' => ∃ v', e = .returned v' ∧ POwn B w' v' (keep l) ∧ Below B w w' := by
  obtain ⟨ad, cap, rfl⟩ := h.shape
  have hix := indexFunc_any w (.slice ad l.length cap) l h.row hl
  have eg : ∀ args w, (callFunc 30 args).run Tryd.prog w = .ok (.enter 30 args) w := enters_of Tryd.func30 (by kernel_rfl) rfl
  have HO : Hid (POwn B w (.slice ad l.length cap) l) := h
  clear h
  go_enter Tryd.func29, Tryd.ntmps29
  go_upto_if 12 with (go_at_call 39; refine hix.mono ?_; rintro e w1 ⟨r, rfl, hb1, hres⟩)
  rcases hres with ⟨rfl, hall⟩ | ⟨P, x, S, hpx, hP, hx0, rfl⟩
  · have HK : Hid (keep l = l) := keep_all hall
    clear hall
    go_wp2
    go_ret
    refine ⟨_, rfl, ?_, hb1.mono hB⟩
    rw [HK.out]
    exact HO.out.below hb1
  · obtain ⟨g, hg⟩ : ∃ g, ad = some ⟨g, 0, none⟩ := by
      obtain ⟨_, ⟨e, h0⟩ | ⟨g, cap, cur, e, _⟩⟩ := HO.out
      · rw [hpx] at h0; simp at h0
      · simp only [Value.slice.injEq] at e
        exact ⟨g, e.1⟩
    subst hg
    have HO1 : Hid (POwn B w1 (.slice (some ⟨g, 0, none⟩) l.length cap) l) := HO.out.below hb1
    have HB1 : Hid (Below B w w1) := hb1.mono hB
    obtain ⟨n, hn⟩ : ∃ n, l.length = n := ⟨_, rfl⟩
    have HD : Hid (DelAt l P.length (P.length + 1) n l) := by show DelAt _ _ _ _ _; rw [hpx]; exact DelAt.start hP hx0 (by rw [← hpx]; exact hn)
    have HN : Hid (l.length = n) := hn
    have hp0 : ¬ ((P.length : Int) = -1) := by omega
    have hp0b : ((P.length : Int) == -1) = false := beq_eq_false_iff_ne.2 hp0
    have hPn : P.length < n := by rw [← hn, hpx]; simp
    obtain ⟨i0, hi0⟩ : ∃ i0, P.length = i0 := ⟨_, rfl⟩
    rw [hn] at HO1 hl
    rw [hi0] at HD hp0 hp0b hPn
    clear hb1 hpx hP hx0 hix HO
    rw [hi0, hn]
    clear hi0 hn
    go_wp2
    go_loopg [5, 6, 7] n (fun g2 s5 s6 _ wr => ∃ (i j : Nat) (m : List Pr), s5 = .int .i64 i ∧ s6 = .int .i64 j ∧ i < j ∧ j ≤ n ∧ n - j ≤ g2 ∧ Hid (DelAt l i j n m) ∧ Hid (POwn B wr (.slice (some ⟨g, 0, none⟩) n cap) m) ∧ Hid (Below B w wr))
    case atStart => exact ⟨i0, i0 + 1, l, rfl, by go_num, by omega, by omega, by omega, HD, HO1, HB1⟩
    case round =>
      clear HD HO1 HB1
      obtain ⟨i, j, m, rfl, rfl, hij, hjn, hg2, HD, HO, HB⟩ := hrel
      by_cases hlt : j < n
      · have hltz : (j : Int) < (n : Int) := by omega
        obtain ⟨y, hy⟩ : ∃ y, l[j]? = some y := ⟨l[j]'(by have := HN.out; omega), List.getElem?_eq_getElem _⟩
        have HY : Hid (l[j]? = some y) := hy
        obtain ⟨cur, hBg, hh, e1, e2, e3, e4, hcell, hf⟩ := HO.out.block
        have hgs : g < wr.heap.size := (Array.getElem?_eq_some_iff.1 hh).1
        obtain ⟨c0, c1⟩ := hcell j y (HD.out.at hy)
        obtain ⟨z, hz⟩ : ∃ z, m[i]? = some z := ⟨m[i]'(by have := HD.out.mlen; omega), List.getElem?_eq_getElem _⟩
        obtain ⟨d0, d1⟩ := hcell i z hz
        have f0 := hf (i * 2)
        have f1 := hf (i * 2 + 1)
        have hc := fun W => takesAway_any y.1 y.2 W
        clear hh e1 e2 e3 e4 hcell hf hy hz
        by_cases h0 : y.2 = 0
        · have h0b : (y.2 == 0) = true := beq_iff_eq.2 h0
          have HS : Hid (DelAt l i (j + 1) n m) := HD.out.skip HY.out h0
          clear h0
          go_wp2_with (first | (go_at_fn 30; refine (hc _).mono ?_; rintro e w2 ⟨rfl, hb2⟩) | (go_at_call 30; refine (hc _).mono ?_; rintro e w2 ⟨rfl, hb2⟩))
          go_roundg (n - (j + 1))
          case measure => omega
          case rel =>
            have hb3 := ((Below.refl _ wr).alloc (Nat.le_refl _) _).trans (hb2.mono (by simp))
            exact ⟨i, j + 1, m, rfl, by go_num, by omega, by omega, Nat.le_refl _, HS, HO.out.below hb3, HB.out.trans (hb3.mono (Nat.le_trans hB HB.out.size))⟩
        · have h0b : (y.2 == 0) = false := beq_eq_false_iff_ne.2 h0
          have HS : Hid (DelAt l (i + 1) (j + 1) n (m.set i y)) := HD.out.put HY.out h0
          clear h0
          go_wp2_with (first | (go_at_fn 30; refine (hc _).mono ?_; rintro e w2 ⟨rfl, hb2⟩; obtain ⟨q0, q1, q2, q3, q4, q5⟩ := del_facts hb2 hgs d0 d1 f0 f1) | (go_at_call 30; refine (hc _).mono ?_; rintro e w2 ⟨rfl, hb2⟩; obtain ⟨q0, q1, q2, q3, q4, q5⟩ := del_facts hb2 hgs d0 d1 f0 f1))
          have hb3 := ((Below.refl _ wr).alloc (Nat.le_refl _) _).trans (hb2.mono (by simp))
          have HO2 : Hid (POwn B (w2.setCells g (i * 2) (encP y)) (.slice (some ⟨g, 0, none⟩) n cap) (m.set i y)) := (HO.out.below hb3).set i y
          have HB2 : Hid (Below B w (w2.setCells g (i * 2) (encP y))) := setCells_below hBg _ _ _ _ (HB.out.trans (hb3.mono (Nat.le_trans hB HB.out.size)))
          go_roundg (n - (j + 1))
          case measure => omega
          case rel => exact ⟨i + 1, j + 1, m.set i y, by go_num, by go_num, by omega, by omega, Nat.le_refl _, HS, HO2.out, HB2.out⟩
      · have hltz : ¬ (j : Int) < (n : Int) := by omega
        obtain ⟨cur, hBg, hh, e1, e2, e3, e4, hcell, hf⟩ := HO.out.block
        have hic : i < cap := by omega
        have hin : i < n := by omega
        obtain ⟨k, hk⟩ : ∃ k, i + k = n := ⟨n - i, by omega⟩
        have HF : Hid (m.take i = keep l) := HD.out.fin hlt
        obtain ⟨vs, hvs⟩ := clear_own HO.out i k (cap - i) hk 0
        have HO2 : Hid (POwn B (wr.setCells g (i * 2) vs) (.slice (some ⟨g, 0, none⟩) i cap) (m.take i)) := HO.out.cut i (by omega) vs
        have HB2 : Hid (Below B w (wr.setCells g (i * 2) vs)) := setCells_below hBg _ _ _ _ HB.out
        have eni : n - i = k := by omega
        have eniz : (n : Int) - (i : Int) = (k : Int) := by omega
        clear hh e1 e2 e3 e4 hcell hf
        go_wp2
        go_ret
        refine ⟨_, rfl, ?_, HB2.out⟩
        rw [← HF.out]
        exact HO2.out
end Go.Proofs.YtjanhebckonbaaaDoor
