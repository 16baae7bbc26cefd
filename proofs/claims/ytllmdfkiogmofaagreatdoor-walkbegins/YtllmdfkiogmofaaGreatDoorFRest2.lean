/- The reference's Under, same, In, Rests. -/
import Derived.Test.YtllmdfkiogmofaaGreatDoorFRest
import Derived.Test.YtllmdfkiogmofaaGreatDoorSame
import Derived.Test.YtllmdfkiogmofaaGreatDoorJ16
namespace Go.Proofs.YtllmdfkiogmofaaGreatDoor
open Go.RowKit Nums Fm
set_option maxRecDepth 100000

theorem after_snoc (c : Int) {l : List En} {k : Nat} {e : En} (h : l[k]? = some e) : after c (l.take (k + 1)) = if e.1.head? = some c then after c (l.take k) ++ [tl e] else after c (l.take k) := by
  rw [List.take_add_one, h]
  show after c (l.take k ++ [e]) = _
  rw [after_append, after]
  split
  · rfl
  · exact List.append_nil _
theorem after_len (c : Int) : ∀ l : List En, (after c l).length ≤ l.length
  | [] => Nat.le_refl _
  | e :: r => by
    have := after_len c r
    rw [after]
    split
    · simp only [List.length_cons]; omega
    · simp only [List.length_cons]; omega
theorem RunesAt.tail {E : Nat} {w : World} {g o n cap : Nat} {xs : List Int} {ad : Option Addr} {c : Nat} (h : RunesAt E w (.slice (some ⟨g, o, none⟩) n cap) xs) (h0 : 0 < xs.length) (had : n = 1 ∨ ad = some ⟨g, o + 1, none⟩) : RunesAt E w (.slice ad (n - 1) c) xs.tail := by
  obtain ⟨ad', cap', e, hc⟩ := h
  simp only [Value.slice.injEq] at e
  obtain ⟨e1, rfl, rfl⟩ := e
  refine ⟨ad, c, by rw [List.length_tail], fun ht => ?_⟩
  rw [List.length_tail] at ht
  obtain ⟨g', off, e2, hg, hx⟩ := hc h0
  rw [← e1] at e2
  simp only [Option.some.injEq, Addr.mk.injEq, and_true] at e2
  obtain ⟨rfl, rfl⟩ := e2
  refine ⟨g, o + 1, had.resolve_left (by omega), hg, fun i x hi => ?_⟩
  have := hx (i + 1) x (by rw [← List.getElem?_tail]; exact hi)
  rwa [show o + (i + 1) = o + 1 + i by omega] at this
set_option maxHeartbeats 2000000 in
theorem refUnder_any (E : Nat) (w : World) (v : Value) (l : List En) (c : Int) (h : RR E w v l) (hl : l.length ≤ 1048576) (hE : E ≤ w.heap.size) :
    Calls Tryz.prog 88 #[v, .int .i32 c] w fun e w' => ∃ v', e = .returned v' ∧ RMade E w.heap.size w' v' (after c l) ∧ Below w.heap.size w w' := by
  obtain ⟨ad, cap, rfl⟩ := h.form
  obtain ⟨n, hn⟩ : ∃ n, l.length = n := ⟨_, rfl⟩
  have HN : Hid (l.length = n) := hn
  rw [hn] at h hl ⊢
  have HR : Hid (RR E w (.slice ad n cap) l) := h
  clear h hn
  go_enter Tryz.func88, Tryz.ntmps88
  go_wp2
  go_loopg [5, 6] n (fun gm s5 s6 wr => ∃ (k : Nat), s6 = .int .i64 k ∧ k ≤ n ∧ n - k ≤ gm ∧ Hid (RMade E w.heap.size wr s5 (after c (l.take k))) ∧ Hid (Below w.heap.size w wr))
  case atStart => exact ⟨0, rfl, Nat.zero_le _, by omega, RMade.nil _ _ _, Below.refl _ _⟩
  case round =>
    obtain ⟨k, rfl, hk, hgm, HM, HB⟩ := hrel
    by_cases hlt : k < n
    · have hltz : (k : Int) < (n : Int) := by omega
      obtain ⟨x, hxk⟩ : ∃ x, l[k]? = some x := ⟨l[k]'(by have := HN.out; omega), List.getElem?_eq_getElem _⟩
      obtain ⟨g, off, rfl, hg, hx⟩ := HR.out.at (by omega)
      obtain ⟨u, ⟨c0, c1, hr⟩, hck⟩ := hx k x hxk
      obtain ⟨ra, rc, hu, _⟩ := id hr
      obtain ⟨rn, hrn⟩ : ∃ rn, x.1.length = rn := ⟨_, rfl⟩
      rw [hrn] at hu
      subst hu
      have hck' : rn ≤ rc := hck
      obtain ⟨q, hq⟩ : ∃ q, x.2 = q := ⟨_, rfl⟩
      have HQ : Hid (x.2 = q) := hq
      rw [hq] at c1
      have c0r : wr.cell? ⟨g, off + k * 2, none⟩ = some (.slice ra rn rc) := (HB.out.cell (p := ⟨g, off + k * 2, none⟩) hg).trans c0
      have hAF := after_snoc c hxk
      by_cases hr0 : 0 < rn
      · have hr0z : (0 : Int) < (rn : Int) := by omega
        obtain ⟨gr, o, rfl, hz, hd⟩ := hr.get (k := 0) (by omega)
        clear hz
        obtain ⟨ch, hch⟩ : ∃ ch, x.1.headD 0 = ch := ⟨_, rfl⟩
        rw [Nat.add_zero, List.drop_zero, hch] at hd
        have hgr : gr < w.heap.size := lt_of_cell hd
        have d0 : wr.cell? ⟨gr, o, none⟩ = some (.int .i32 ch) := (HB.out.cell (p := ⟨gr, o, none⟩) hgr).trans hd
        have hhead : x.1.head? = some ch := by
          cases hx1 : x.1 with
          | nil => rw [hx1] at hrn; simp at hrn; omega
          | cons a t => rw [hx1] at hch; simp only [List.headD_cons] at hch; rw [hch]; rfl
        rw [hhead] at hAF
        by_cases hcc : ch = c
        · have hcb : (ch == c) = true := beq_iff_eq.2 hcc
          rw [if_pos (by rw [hcc])] at hAF
          have HAF : Hid (after c (l.take (k + 1)) = after c (l.take k) ++ [tl x]) := hAF
          have hS : SE g (off + k * 2) (.slice (some ⟨gr, o, none⟩) rn rc) q w := ⟨c0, c1⟩
          go_upto_region 6 with fail
          clear c0r d0
          by_cases hrc1 : rc = 1
          · subst hrc1
            have hrn1 : rn = 1 := by omega
            subst hrn1
            obtain ⟨td, htd⟩ : ∃ td : Option Addr, td = some ⟨gr, o, none⟩ := ⟨_, rfl⟩
            obtain ⟨tn, htn⟩ : ∃ tn : Nat, tn = 0 := ⟨_, rfl⟩
            obtain ⟨tc, htc⟩ : ∃ tc : Nat, tc = 0 := ⟨_, rfl⟩
            have HTL : Hid (RunesAt E w (.slice td tn tc) x.1.tail ∧ CapOk (.slice td tn tc)) := ⟨by rw [htn]; exact hr.tail (by omega) (.inl rfl), by rw [htn]; exact Nat.zero_le _⟩
            clear hAF hx hr hrn hck hck' hhead hch hcc hq c0 c1 hd hxk
            have hS0 : SE g (off + k * 2) (.slice (some ⟨gr, o, none⟩) 1 1) q wr.drew := (hS.below hg HB.out).below (B := wr.heap.size) (Nat.lt_of_lt_of_le hg HB.out.size) (Below.refl _ wr).drew
            obtain ⟨xss, ho, hxl, hxe⟩ := HM.out.ex
            obtain ⟨W4, hW4⟩ : ∃ W4, W4 = wr.drew.alloc (.cells #[.slice td tn tc, .int .i64 q] 83) := ⟨_, rfl⟩
            have hb4 : Below wr.heap.size wr W4 := by rw [hW4]; exact ((Below.refl _ wr).drew).alloc (by simp) _
            have hn4 : W4.heap[wr.heap.size]? = some (.cells #[.slice td tn tc, .int .i64 q] 83) := by rw [hW4]; exact alloc_newP _ _
            have hBr : w.heap.size ≤ wr.heap.size := HB.out.size
            obtain ⟨v5, W5, hap, ho5, hgr, _⟩ := gappend_run rtyR (ho.below hb4) (Nat.le_trans hBr hb4.size) (x := [.slice td tn tc, .int .i64 q]) ⟨rfl, by simp [Value.oneCell']⟩ (nb := wr.heap.size) (fun j u hj => by simp only [World.cell?, hn4]; simpa using hj) (by have := after_len c (l.take k); rw [hxl]; rw [List.length_take] at this; omega) 77 1
            have hB45 : Below w.heap.size W4 W5 := gBelow (ho.below hb4) hgr (Nat.le_trans hBr hb4.size)
            have hb5 : Below w.heap.size w W5 := (HB.out.trans (hb4.mono hBr)).trans hB45
            have hM5 : RMade E w.heap.size W5 v5 (after c (l.take (k + 1))) := by
              rw [HAF.out]
              refine RMade.push (w := wr) (u := .slice td tn tc) (xss := xss) hxl hxe ((hb4.mono (Nat.le_trans hE hBr)).trans (hB45.mono hE)) ?_ (HTL.out.1.below (HB.out.mono hE)) HTL.out.2
              simp only [tl, HQ.out]
              exact ho5
            obtain ⟨sd, sc, hsv, _⟩ := ho.shape
            obtain ⟨vd, vc, hvv, _⟩ := ho5.shape
            obtain ⟨n3, hn3⟩ : ∃ n3, xss.length = n3 := ⟨_, rfl⟩
            obtain ⟨n5, hn5⟩ : ∃ n5, (xss ++ [[Value.slice td tn tc, .int .i64 q]]).length = n5 := ⟨_, rfl⟩
            rw [hn3] at hsv
            rw [hn5] at hvv
            subst hsv
            subst hvv
            have hS4 : SE g (off + k * 2) (.slice (some ⟨gr, o, none⟩) 1 1) q W4 := (hS.below hg HB.out).below (Nat.lt_of_lt_of_le hg hBr) hb4
            have hS5 : SE g (off + k * 2) (.slice (some ⟨gr, o, none⟩) 1 1) q W5 := hS.below hg hb5
            have HM5 : Hid (RMade E w.heap.size W5 (.slice vd n5 vc) (after c (l.take (k + 1)))) := hM5
            have HB5 : Hid (Below w.heap.size w W5) := hb5
            have HAP : Hid ((Builtin.append_ #[77, 77] 77 #[.slice sd n3 sc, .slice (some ⟨wr.heap.size, 0, none⟩) 1 1]).run Tryz.prog W4 = .ok (.slice vd n5 vc) W5) := hap
            clear hS ho hxl hxe hb4 hn4 hap ho5 hgr hB45 hb5 hM5 hn3 hn5
            refine region_at (S := SE g (off + k * 2) (.slice (some ⟨gr, o, none⟩) 1 1) q) 16 rfl mixedP hS0 (fun _ => ?_)
            refine take_at (i := 0) 31 rfl rfl (by kernel_rfl) (by kernel_rfl) (by kernel_rfl) (fun _ _ _ h => h) (by rfl) (fun w hSw => by (have hSw2 := SE.facts hSw; clear hSw; go_simp; first | done | exact rfl)) (by assumption) ?_
            simp only [List.setIfInBounds_toArray, List.set_cons_zero, List.set_cons_succ]
            refine take_at (i := 1) 32 rfl rfl (by kernel_rfl) (by kernel_rfl) (by kernel_rfl) (fun _ _ _ h => h) (by rfl) (fun w hSw => by (have hSw2 := SE.facts hSw; clear hSw; go_simp; first | done | exact rfl)) (by assumption) ?_
            simp only [List.setIfInBounds_toArray, List.set_cons_zero, List.set_cons_succ]
            refine take_at (i := 2) 33 rfl rfl (by kernel_rfl) (by kernel_rfl) (by kernel_rfl) (fun _ _ _ h => h) (by rfl) (fun w hSw => by (have hSw2 := SE.facts hSw; clear hSw; go_simp; first | done | exact rfl)) (by assumption) ?_
            simp only [List.setIfInBounds_toArray, List.set_cons_zero, List.set_cons_succ]
            refine take_at (i := 3) 34 rfl rfl (by kernel_rfl) (by kernel_rfl) (by kernel_rfl) (fun _ _ _ h => h) (by rfl) (fun w hSw => by (have hSw2 := SE.facts hSw; clear hSw; go_simp; first | done | exact rfl)) (by assumption) ?_
            simp only [List.setIfInBounds_toArray, List.set_cons_zero, List.set_cons_succ]
            refine take_at (i := 4) 35 rfl rfl (by kernel_rfl) (by kernel_rfl) (by kernel_rfl) (fun _ _ _ h => h) (by rfl) (fun w hSw => by (have hSw2 := SE.facts hSw; clear hSw; go_simp; first | done | exact rfl)) (by assumption) ?_
            simp only [List.setIfInBounds_toArray, List.set_cons_zero, List.set_cons_succ]
            refine take_at (i := 5) 36 rfl rfl (by kernel_rfl) (by kernel_rfl) (by kernel_rfl) (fun _ _ _ h => h) (by rfl) (fun w hSw => by (have hSw2 := SE.facts hSw; clear hSw; go_simp; first | done | exact rfl)) (by assumption) ?_
            simp only [List.setIfInBounds_toArray, List.set_cons_zero, List.set_cons_succ]
            refine take_at (i := 6) 37 rfl rfl (by kernel_rfl) (by kernel_rfl) (by kernel_rfl) (fun _ _ _ h => h) (by rfl) (fun w hSw => by (have hSw2 := SE.facts hSw; clear hSw; go_simp; first | done | exact rfl)) (by assumption) ?_
            simp only [List.setIfInBounds_toArray, List.set_cons_zero, List.set_cons_succ]
            refine take_at (i := 7) 38 rfl rfl (by kernel_rfl) (by kernel_rfl) (by kernel_rfl) (fun _ _ _ h => h) (by rfl) (fun w hSw => by (have hSw2 := SE.facts hSw; clear hSw; go_simp; first | done | exact rfl)) (by assumption) ?_
            simp only [List.setIfInBounds_toArray, List.set_cons_zero, List.set_cons_succ]
            refine take_at (i := 8) 39 rfl rfl (by kernel_rfl) (by kernel_rfl) (by kernel_rfl) (fun _ _ _ h => h) (by rfl) (fun w hSw => by (have hSw2 := SE.facts hSw; clear hSw; go_simp; first | done | exact rfl)) (by assumption) ?_
            simp only [List.setIfInBounds_toArray, List.set_cons_zero, List.set_cons_succ]
            refine take_at (i := 9) 40 rfl rfl (by kernel_rfl) (by kernel_rfl) (by kernel_rfl) (fun _ _ _ h => h) (by rfl) (fun w hSw => by (have hSw2 := SE.facts hSw; clear hSw; go_simp; first | done | exact rfl)) (by assumption) ?_
            simp only [List.setIfInBounds_toArray, List.set_cons_zero, List.set_cons_succ]
            refine take_at (i := 10) 41 rfl rfl (by kernel_rfl) (by kernel_rfl) (by kernel_rfl) (fun _ _ _ h => h) (by rfl) (fun w hSw => by (have hSw2 := SE.facts hSw; clear hSw; go_simp; first | done | exact rfl)) (by assumption) ?_
            simp only [List.setIfInBounds_toArray, List.set_cons_zero, List.set_cons_succ]
            refine take_at (i := 11) 42 rfl rfl (by kernel_rfl) (by kernel_rfl) (by kernel_rfl) (fun _ _ _ h => h) (by rfl) (fun w hSw => by (have hSw2 := SE.facts hSw; clear hSw; go_simp; first | done | exact rfl)) (by assumption) ?_
            simp only [List.setIfInBounds_toArray, List.set_cons_zero, List.set_cons_succ]
            refine take_at (i := 12) 43 rfl rfl (by kernel_rfl) (by kernel_rfl) (by kernel_rfl) (fun _ _ _ h => h) (by rfl) (fun w hSw => by (have hSw2 := SE.facts hSw; clear hSw; go_simp; first | done | exact rfl)) (by assumption) ?_
            simp only [List.setIfInBounds_toArray, List.set_cons_zero, List.set_cons_succ]
            rw [htd, htn, htc] at hW4
            refine one_value (i := 13) (v := .slice (some ⟨wr.heap.size, 0, none⟩) 1 1) (w' := W4) 44 (by kernel_rfl) rfl rfl (by rfl) (by rw [hW4]; go_simp; first | done | exact rfl) hS4 (fun _ => ?_)
            simp only [List.setIfInBounds_toArray, List.set_cons_zero, List.set_cons_succ]
            refine one_value (i := 14) (v := .slice vd n5 vc) (w' := W5) 45 (by kernel_rfl) rfl rfl (by rfl) (exec_app HAP.out) hS5 (fun _ => ?_)
            simp only [List.setIfInBounds_toArray, List.set_cons_zero, List.set_cons_succ]
            refine one_value (i := 15) (v := .slice vd n5 vc) (w' := W5) 5 (by kernel_rfl) rfl rfl (by rfl) (by kernel_rfl) hS5 (fun _ => ?_)
            refine wpAnyH_done (by kernel_rfl) ?_ _
            simp only [List.setIfInBounds_toArray, List.set_cons_zero, List.set_cons_succ]
            clear hW4 hS4 hS5 hS0
            go_wp2
            go_roundg (n - (k + 1))
            case measure => omega
            case rel => exact ⟨k + 1, by go_num, by omega, Nat.le_refl _, HM5, HB5⟩
          · have hrc1z : ¬ (rc : Int) = 1 := by omega
            have h1rn : (1 : Int) ≤ (rn : Int) := by omega
            obtain ⟨td, htd⟩ : ∃ td : Option Addr, td = some ⟨gr, o + 1, none⟩ := ⟨_, rfl⟩
            obtain ⟨tn, htn⟩ : ∃ tn : Nat, tn = rn - 1 := ⟨_, rfl⟩
            obtain ⟨tc, htc⟩ : ∃ tc : Nat, tc = rc - 1 := ⟨_, rfl⟩
            have HTL : Hid (RunesAt E w (.slice td tn tc) x.1.tail ∧ CapOk (.slice td tn tc)) := ⟨by rw [htn]; exact hr.tail (by omega) (.inr htd), by rw [htn, htc]; show rn - 1 ≤ rc - 1; omega⟩
            clear hAF hx hr hrn hck hhead hch hcc hq c0 c1 hd hxk
            have hS0 : SE g (off + k * 2) (.slice (some ⟨gr, o, none⟩) rn rc) q wr.drew := (hS.below hg HB.out).below (B := wr.heap.size) (Nat.lt_of_lt_of_le hg HB.out.size) (Below.refl _ wr).drew
            obtain ⟨xss, ho, hxl, hxe⟩ := HM.out.ex
            obtain ⟨W4, hW4⟩ : ∃ W4, W4 = wr.drew.alloc (.cells #[.slice td tn tc, .int .i64 q] 83) := ⟨_, rfl⟩
            have hb4 : Below wr.heap.size wr W4 := by rw [hW4]; exact ((Below.refl _ wr).drew).alloc (by simp) _
            have hn4 : W4.heap[wr.heap.size]? = some (.cells #[.slice td tn tc, .int .i64 q] 83) := by rw [hW4]; exact alloc_newP _ _
            have hBr : w.heap.size ≤ wr.heap.size := HB.out.size
            obtain ⟨v5, W5, hap, ho5, hgr, _⟩ := gappend_run rtyR (ho.below hb4) (Nat.le_trans hBr hb4.size) (x := [.slice td tn tc, .int .i64 q]) ⟨rfl, by simp [Value.oneCell']⟩ (nb := wr.heap.size) (fun j u hj => by simp only [World.cell?, hn4]; simpa using hj) (by have := after_len c (l.take k); rw [hxl]; rw [List.length_take] at this; omega) 77 1
            have hB45 : Below w.heap.size W4 W5 := gBelow (ho.below hb4) hgr (Nat.le_trans hBr hb4.size)
            have hb5 : Below w.heap.size w W5 := (HB.out.trans (hb4.mono hBr)).trans hB45
            have hM5 : RMade E w.heap.size W5 v5 (after c (l.take (k + 1))) := by
              rw [HAF.out]
              refine RMade.push (w := wr) (u := .slice td tn tc) (xss := xss) hxl hxe ((hb4.mono (Nat.le_trans hE hBr)).trans (hB45.mono hE)) ?_ (HTL.out.1.below (HB.out.mono hE)) HTL.out.2
              simp only [tl, HQ.out]
              exact ho5
            obtain ⟨sd, sc, hsv, _⟩ := ho.shape
            obtain ⟨vd, vc, hvv, _⟩ := ho5.shape
            obtain ⟨n3, hn3⟩ : ∃ n3, xss.length = n3 := ⟨_, rfl⟩
            obtain ⟨n5, hn5⟩ : ∃ n5, (xss ++ [[Value.slice td tn tc, .int .i64 q]]).length = n5 := ⟨_, rfl⟩
            rw [hn3] at hsv
            rw [hn5] at hvv
            subst hsv
            subst hvv
            have hS4 : SE g (off + k * 2) (.slice (some ⟨gr, o, none⟩) rn rc) q W4 := (hS.below hg HB.out).below (Nat.lt_of_lt_of_le hg hBr) hb4
            have hS5 : SE g (off + k * 2) (.slice (some ⟨gr, o, none⟩) rn rc) q W5 := hS.below hg hb5
            have HM5 : Hid (RMade E w.heap.size W5 (.slice vd n5 vc) (after c (l.take (k + 1)))) := hM5
            have HB5 : Hid (Below w.heap.size w W5) := hb5
            have HAP : Hid ((Builtin.append_ #[77, 77] 77 #[.slice sd n3 sc, .slice (some ⟨wr.heap.size, 0, none⟩) 1 1]).run Tryz.prog W4 = .ok (.slice vd n5 vc) W5) := hap
            clear hS ho hxl hxe hb4 hn4 hap ho5 hgr hB45 hb5 hM5 hn3 hn5
            refine region_at (S := SE g (off + k * 2) (.slice (some ⟨gr, o, none⟩) rn rc) q) 16 rfl mixedP hS0 (fun _ => ?_)
            refine take_at (i := 0) 31 rfl rfl (by kernel_rfl) (by kernel_rfl) (by kernel_rfl) (fun _ _ _ h => h) (by rfl) (fun w hSw => by (have hSw2 := SE.facts hSw; clear hSw; go_simp; first | done | exact rfl)) (by assumption) ?_
            simp only [List.setIfInBounds_toArray, List.set_cons_zero, List.set_cons_succ]
            refine take_at (i := 1) 32 rfl rfl (by kernel_rfl) (by kernel_rfl) (by kernel_rfl) (fun _ _ _ h => h) (by rfl) (fun w hSw => by (have hSw2 := SE.facts hSw; clear hSw; go_simp; first | done | exact rfl)) (by assumption) ?_
            simp only [List.setIfInBounds_toArray, List.set_cons_zero, List.set_cons_succ]
            refine take_at (i := 2) 33 rfl rfl (by kernel_rfl) (by kernel_rfl) (by kernel_rfl) (fun _ _ _ h => h) (by rfl) (fun w hSw => by (have hSw2 := SE.facts hSw; clear hSw; go_simp; first | done | exact rfl)) (by assumption) ?_
            simp only [List.setIfInBounds_toArray, List.set_cons_zero, List.set_cons_succ]
            refine take_at (i := 3) 34 rfl rfl (by kernel_rfl) (by kernel_rfl) (by kernel_rfl) (fun _ _ _ h => h) (by rfl) (fun w hSw => by (have hSw2 := SE.facts hSw; clear hSw; go_simp; first | done | exact rfl)) (by assumption) ?_
            simp only [List.setIfInBounds_toArray, List.set_cons_zero, List.set_cons_succ]
            refine take_at (i := 4) 35 rfl rfl (by kernel_rfl) (by kernel_rfl) (by kernel_rfl) (fun _ _ _ h => h) (by rfl) (fun w hSw => by (have hSw2 := SE.facts hSw; clear hSw; go_simp; first | done | exact rfl)) (by assumption) ?_
            simp only [List.setIfInBounds_toArray, List.set_cons_zero, List.set_cons_succ]
            refine take_at (i := 5) 36 rfl rfl (by kernel_rfl) (by kernel_rfl) (by kernel_rfl) (fun _ _ _ h => h) (by rfl) (fun w hSw => by (have hSw2 := SE.facts hSw; clear hSw; go_simp; first | done | exact rfl)) (by assumption) ?_
            simp only [List.setIfInBounds_toArray, List.set_cons_zero, List.set_cons_succ]
            refine take_at (i := 6) 37 rfl rfl (by kernel_rfl) (by kernel_rfl) (by kernel_rfl) (fun _ _ _ h => h) (by rfl) (fun w hSw => by (have hSw2 := SE.facts hSw; clear hSw; go_simp; first | done | exact rfl)) (by assumption) ?_
            simp only [List.setIfInBounds_toArray, List.set_cons_zero, List.set_cons_succ]
            refine take_at (i := 7) 38 rfl rfl (by kernel_rfl) (by kernel_rfl) (by kernel_rfl) (fun _ _ _ h => h) (by rfl) (fun w hSw => by (have hSw2 := SE.facts hSw; clear hSw; go_simp; first | done | exact rfl)) (by assumption) ?_
            simp only [List.setIfInBounds_toArray, List.set_cons_zero, List.set_cons_succ]
            refine take_at (i := 8) 39 rfl rfl (by kernel_rfl) (by kernel_rfl) (by kernel_rfl) (fun _ _ _ h => h) (by rfl) (fun w hSw => by (have hSw2 := SE.facts hSw; clear hSw; go_simp; first | done | exact rfl)) (by assumption) ?_
            simp only [List.setIfInBounds_toArray, List.set_cons_zero, List.set_cons_succ]
            refine take_at (i := 9) 40 rfl rfl (by kernel_rfl) (by kernel_rfl) (by kernel_rfl) (fun _ _ _ h => h) (by rfl) (fun w hSw => by (have hSw2 := SE.facts hSw; clear hSw; go_simp; first | done | exact rfl)) (by assumption) ?_
            simp only [List.setIfInBounds_toArray, List.set_cons_zero, List.set_cons_succ]
            refine take_at (i := 10) 41 rfl rfl (by kernel_rfl) (by kernel_rfl) (by kernel_rfl) (fun _ _ _ h => h) (by rfl) (fun w hSw => by (have hSw2 := SE.facts hSw; clear hSw; go_simp; first | done | exact rfl)) (by assumption) ?_
            simp only [List.setIfInBounds_toArray, List.set_cons_zero, List.set_cons_succ]
            refine take_at (i := 11) 42 rfl rfl (by kernel_rfl) (by kernel_rfl) (by kernel_rfl) (fun _ _ _ h => h) (by rfl) (fun w hSw => by (have hSw2 := SE.facts hSw; clear hSw; go_simp; first | done | exact rfl)) (by assumption) ?_
            simp only [List.setIfInBounds_toArray, List.set_cons_zero, List.set_cons_succ]
            refine take_at (i := 12) 43 rfl rfl (by kernel_rfl) (by kernel_rfl) (by kernel_rfl) (fun _ _ _ h => h) (by rfl) (fun w hSw => by (have hSw2 := SE.facts hSw; clear hSw; go_simp; first | done | exact rfl)) (by assumption) ?_
            simp only [List.setIfInBounds_toArray, List.set_cons_zero, List.set_cons_succ]
            rw [htd, htn, htc] at hW4
            refine one_value (i := 13) (v := .slice (some ⟨wr.heap.size, 0, none⟩) 1 1) (w' := W4) 44 (by kernel_rfl) rfl rfl (by rfl) (by rw [hW4]; go_simp; first | done | exact rfl) hS4 (fun _ => ?_)
            simp only [List.setIfInBounds_toArray, List.set_cons_zero, List.set_cons_succ]
            refine one_value (i := 14) (v := .slice vd n5 vc) (w' := W5) 45 (by kernel_rfl) rfl rfl (by rfl) (exec_app HAP.out) hS5 (fun _ => ?_)
            simp only [List.setIfInBounds_toArray, List.set_cons_zero, List.set_cons_succ]
            refine one_value (i := 15) (v := .slice vd n5 vc) (w' := W5) 5 (by kernel_rfl) rfl rfl (by rfl) (by kernel_rfl) hS5 (fun _ => ?_)
            refine wpAnyH_done (by kernel_rfl) ?_ _
            simp only [List.setIfInBounds_toArray, List.set_cons_zero, List.set_cons_succ]
            clear hW4 hS4 hS5 hS0
            go_wp2
            go_roundg (n - (k + 1))
            case measure => omega
            case rel => exact ⟨k + 1, by go_num, by omega, Nat.le_refl _, HM5, HB5⟩
        · have hcb : (ch == c) = false := beq_eq_false_iff_ne.2 hcc
          rw [if_neg (fun e => hcc (Option.some.inj e))] at hAF
          have HM2 : Hid (RMade E w.heap.size wr u5 (after c (l.take (k + 1)))) := by show RMade _ _ _ _ _; rw [hAF]; exact HM.out
          clear hAF hx hr hrn hck hhead hch hcc hq c0 c1 hd hxk
          go_wp2
          go_roundg (n - (k + 1))
          case measure => omega
          case rel => exact ⟨k + 1, by go_num, by omega, Nat.le_refl _, HM2, HB⟩
      · have hr0z : ¬ (0 : Int) < (rn : Int) := by omega
        have hx1 : x.1 = [] := List.eq_nil_of_length_eq_zero (by omega)
        rw [hx1, if_neg (by simp)] at hAF
        have HM2 : Hid (RMade E w.heap.size wr u5 (after c (l.take (k + 1)))) := by show RMade _ _ _ _ _; rw [hAF]; exact HM.out
        clear hAF hx hr hrn hck hq c0 c1 hxk hx1
        go_wp2
        go_roundg (n - (k + 1))
        case measure => omega
        case rel => exact ⟨k + 1, by go_num, by omega, Nat.le_refl _, HM2, HB⟩
    · have hltz : ¬ (k : Int) < (n : Int) := by omega
      have HE : Hid (l.take k = l) := List.take_of_length_le (by have := HN.out; omega)
      go_wp2
      go_ret
      exact ⟨_, rfl, by have := HM.out; rwa [HE.out] at this, HB.out⟩
end Go.Proofs.YtllmdfkiogmofaaGreatDoor
