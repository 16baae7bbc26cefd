/- Under's function: an iterator. -/
import Derived.Test.YthjlihhknaelaaaDoorWkUn
namespace Go.Proofs.YthjlihhknaelaaaDoor
open Go.RowKit Go.Shelf Nums Fm Pk Pm
set_option maxRecDepth 100000
attribute [local go_sem] Oper.semAt_some

structure S1u (c0 c1 wb : Nat) (s : ByteArray) (W : World) : Prop where
  a : W.cell? ⟨c0, 0, none⟩ = some (.pointer (some ⟨wb, 0, none⟩))
  b : W.cell? ⟨c1, 0, none⟩ = some (.string s)
theorem S1u.facts {c0 c1 wb : Nat} {s : ByteArray} {W : World} (h : S1u c0 c1 wb s W) : W.cell? ⟨c0, 0, none⟩ = some (.pointer (some ⟨wb, 0, none⟩)) ∧ W.cell? ⟨c1, 0, none⟩ = some (.string s) := ⟨h.1, h.2⟩
theorem S1u.below {c0 c1 wb : Nat} {s : ByteArray} {W W' : World} (h : S1u c0 c1 wb s W) (hb : Below W.heap.size W W') : S1u c0 c1 wb s W' := ⟨(hb.cell (p := ⟨c0, 0, none⟩) (World.block_lt_of_cell? _ _ h.1)).trans h.1, (hb.cell (p := ⟨c1, 0, none⟩) (World.block_lt_of_cell? _ _ h.2)).trans h.2⟩
theorem wp_calm {c : Code} {Q : Exit → Act → World → Prop} {a : Act} {w : World} (h : c.wp Tryd.prog (fun e a w => (∀ x, e ≠ .panic x) ∧ Q e a w) a w) : c.wp Tryd.prog Q a w := wp_mono h (fun _ _ _ g => g.2)
theorem YC.told {d0 d1 : Value} {x : Pr} {W : World} {R : Ending → World → Prop} (h : YC (.func (.func 29) #[] #[d0, d1]) x W R) : Calls Tryd.prog 29 #[pairV x, d0, d1] W R := by
  rcases h with ⟨e0, e1, he, hc⟩ | ⟨_, he, _⟩
  · have h3 : (#[d0, d1] : Array Value) = #[e0, e1] := by injection he
    have h4 : [d0, d1] = [e0, e1] := congrArg Array.toList h3
    have h1 : d0 = e0 := (List.cons.inj h4).1
    have h2 : d1 = e1 := (List.cons.inj (List.cons.inj h4).2).1
    rw [h1, h2]
    exact hc
  · injection he with h1
    injection h1
theorem YPost.one {I X : CI} {A : Nat → Prop} {pre : List Pr} {x : Pr} {W W' : World} {e : Ending} (h : YPost I X A pre x W e W') : ∃ b A', e = .returned (.bool b) ∧ Ext A A' W ∧ Lies A' W' ∧ Upd A W W' ∧ (if b = true then I A' (pre ++ [x]) W' else X A' (pre ++ [x]) W') := by
  rcases h with ⟨rfl, A', h1, h2, h3, h4⟩ | ⟨rfl, A', h1, h2, h3, h4⟩
  · exact ⟨true, A', rfl, h1, h2, h3, by simpa using h4⟩
  · exact ⟨false, A', rfl, h1, h2, h3, by simpa using h4⟩
theorem un_results (tmps : Array Value) (w : World) : ∃ v, (results Tryd.f37 tmps).run Tryd.prog w = .ok v w := by
  simp [results, Tryd.results37, go_sem]
theorem while_all {p : Pr → Bool} : ∀ {m : List Pr}, (∀ x ∈ m, p x = true) → m.takeWhile p = m
  | [], _ => rfl
  | x :: r, h => by rw [List.takeWhile_cons, h x (by simp), if_pos rfl, while_all (fun y hy => h y (by simp [hy]))]
theorem while_cut {p : Pr → Bool} : ∀ {m q : List Pr} {x : Pr}, q ++ [x] <+: m → (∀ y ∈ q, p y = true) → p x = false → m.takeWhile p = q
  | m, [], x, hp, _, hx => by
    obtain ⟨t, rfl⟩ := hp
    simp [hx]
  | m, y :: q, x, hp, hq, hx => by
    obtain ⟨t, rfl⟩ := hp
    rw [List.cons_append, List.cons_append, List.takeWhile_cons, hq y (by simp), if_pos rfl, while_cut (q := q) (x := x) ⟨t, rfl⟩ (fun z hz => hq z (by simp [hz])) hx]
theorem while_pre {p : Pr → Bool} : ∀ {m q : List Pr}, q <+: m → (∀ y ∈ q, p y = true) → q <+: m.takeWhile p
  | _, [], _, _ => List.nil_prefix
  | m, y :: q, hp, hq => by
    obtain ⟨t, rfl⟩ := hp
    rw [List.cons_append, List.takeWhile_cons, hq y (by simp), if_pos rfl]
    exact List.cons_prefix_cons.2 ⟨rfl, while_pre ⟨t, rfl⟩ (fun z hz => hq z (by simp [hz]))⟩
set_option maxHeartbeats 8000000 in
theorem under_seq (w0 : World) (wb : Nat) (l : List Pr) (h : WkOn w0 wb l) (hl : l.length ≤ 4096) (c0 c1 : Nat) (s : ByteArray) :
    SeqC (US w0 wb c0 c1 s) 37 #[.pointer (some ⟨c0, 0, none⟩), .pointer (some ⟨c1, 0, none⟩)] (l.filter fun x => hpB x.1 s) := by
  intro yv I X A W hyv hS hMI hMX hY h0 hL
  obtain ⟨d0, d1, rfl⟩ := hyv
  show Calls Tryd.prog 37 #[.func (.func 29) #[] #[d0, d1], .pointer (some ⟨c0, 0, none⟩), .pointer (some ⟨c1, 0, none⟩)] W _
  obtain ⟨r1, r2, r3, r4, r5⟩ := hS
  obtain ⟨yb, hyb⟩ : ∃ yb, yb = W.heap.size := ⟨_, rfl⟩
  obtain ⟨hall, hpw, _⟩ := built_all h.ok
  have HRK : Hid (∀ V, Below w0.heap.size w0 V → Calls Tryd.prog 20 #[.pointer (some ⟨wb, 0, none⟩), .string s] V fun e w' => ∃ r : Nat, e = .returned (.int .i64 (r : Int)) ∧ FirstAt l.length (fun k => !lessB (l.getD k zP).1 s) r ∧ Below V.heap.size V w') := fun V hV => Rank_any V wb l (h.below hV) hl (built_rising h.ok) s
  have hc1 : c1 < W.heap.size := World.block_lt_of_cell? _ _ r4
  have hc0 : c0 < W.heap.size := World.block_lt_of_cell? _ _ r3
  have hwb : wb < w0.heap.size := by obtain ⟨D, _, _, hW⟩ := h.at'; exact hW.lt
  obtain ⟨R, hR⟩ : ∃ R : Ending → World → Prop, (fun e W' => (∃ v, e = .returned v) ∧ ((∃ A', Ext A A' W ∧ Lies A' W' ∧ Upd A W W' ∧ I A' (l.filter fun x => hpB x.1 s) W') ∨ ∃ q A', q <+: (l.filter fun x => hpB x.1 s) ∧ Ext A A' W ∧ Lies A' W' ∧ Upd A W W' ∧ X A' q W')) = R := ⟨_, rfl⟩
  have HR : Hid _ := hR
  rw [hR]
  clear hR
  refine (callsIn_wide (n := 0)).1 (callsIn_of_wp_marks Tryd.func37 rfl trivial ?_ rfl)
  refine wpIn_wide.2 ?_
  simp only [Tryd.ntmps37, List.size_toArray, List.length_cons, List.length_nil, Nat.reduceAdd, Nat.reduceSub, Array.replicate_succ, Array.replicate_zero, List.push_toArray, List.append_toArray, List.nil_append, List.cons_append]
  go_upto_region 1 with fail
  generalize hW0 : W.alloc _ = W0
  rw [← hyb]
  have hb0 : Below W.heap.size W W0 := by rw [← hW0]; exact (Below.refl _ W).alloc (Nat.le_refl _) _
  have hy0 : W0.cell? ⟨yb, 0, none⟩ = some (.func (.func 29) #[] #[d0, d1]) := by rw [← hW0, hyb]; simp
  have hs0 : W0.heap.size = W.heap.size + 1 := by rw [← hW0]; simp
  have hS1 : S1u c0 c1 wb s W0.drew := ⟨(hb0.cell (p := ⟨c0, 0, none⟩) hc0).trans r3, (hb0.cell (p := ⟨c1, 0, none⟩) hc1).trans r4⟩
  have hbd : Below W.heap.size W W0.drew := hb0.drew
  have hb0d : Below w0.heap.size w0 W0.drew := r1.trans (hbd.mono r1.size)
  clear hW0
  refine wp_calm ?_
  refine region_at (S := S1u c0 c1 wb s) 5 rfl mixedP hS1 (fun _ => ?_)
  refine take_at (i := 0) 5 rfl rfl (by kernel_rfl) (by kernel_rfl) (by kernel_rfl) (fun c _ _ h => absurd rfl (h.1 c)) (by rfl) (fun w hSw => by (have hSw2 := S1u.facts hSw; clear hSw; go_simp; first | done | exact rfl)) (by assumption) ?_
  simp only [List.setIfInBounds_toArray, List.set_cons_zero, List.set_cons_succ]
  refine take_at (i := 1) 6 rfl rfl (by kernel_rfl) (by kernel_rfl) (by kernel_rfl) (fun c _ _ h => absurd rfl (h.1 c)) (by rfl) (fun w hSw => by (have hSw2 := S1u.facts hSw; clear hSw; go_simp; first | done | exact rfl)) (by assumption) ?_
  simp only [List.setIfInBounds_toArray, List.set_cons_zero, List.set_cons_succ]
  refine take_at (i := 2) 7 rfl rfl (by kernel_rfl) (by kernel_rfl) (by kernel_rfl) (fun c _ _ h => absurd rfl (h.1 c)) (by rfl) (fun w hSw => by (have hSw2 := S1u.facts hSw; clear hSw; go_simp; first | done | exact rfl)) (by assumption) ?_
  simp only [List.setIfInBounds_toArray, List.set_cons_zero, List.set_cons_succ]
  refine one_call (i := 3) (w0 := W0.drew) 8 20 #[.pointer (some ⟨wb, 0, none⟩), .string s] (by kernel_rfl) rfl rfl (by rfl) (by kernel_rfl) ?_
  refine (HRK.out _ hb0d).mono ?_
  rintro e w2 ⟨r, rfl, hfa, hb2⟩
  have hS2 := hS1.below hb2
  refine ⟨_, rfl, hS2, fun _ => ?_⟩
  simp only [List.setIfInBounds_toArray, List.set_cons_zero, List.set_cons_succ]
  refine one_call (i := 4) (w0 := w2) 9 30 #[.pointer (some ⟨wb, 0, none⟩), .int .i64 (r : Int)] (by kernel_rfl) rfl rfl (by rfl) (by kernel_rfl) ?_
  refine (from_any wb (r : Int) w2).mono ?_
  rintro e wl ⟨rfl, t1, t2, hwl⟩
  have hb3 : Below w2.heap.size w2 wl := by rw [hwl]; exact ((Below.refl _ w2).alloc (Nat.le_refl _) _).alloc (by simp) _
  have hS3 := hS2.below hb3
  have hsl : wl.heap.size = w2.heap.size + 2 := by rw [hwl]; simp
  have hcw : wl.cell? ⟨w2.heap.size, 0, none⟩ = some (.pointer (some ⟨wb, 0, none⟩)) := by rw [hwl]; simp
  have hci : wl.cell? ⟨w2.heap.size + 1, 0, none⟩ = some (.int .i64 (r : Int)) := by rw [hwl]; simp
  refine ⟨_, rfl, hS3, fun _ => ?_⟩
  simp only [List.setIfInBounds_toArray, List.set_cons_zero, List.set_cons_succ]
  refine wpAnyH_done (by kernel_rfl) ?_ _
  have hs2 := hb2.size
  have hbdl : Below W0.drew.heap.size W0.drew wl := hb2.trans (hb3.mono hb2.size)
  have hbWl : Below W.heap.size W wl := hbd.trans (hbdl.mono hbd.size)
  have hs0d : W0.drew.heap.size = W.heap.size + 1 := hs0
  have hn : UN w0 W A yb c1 w2.heap.size wb wl.heap.size := ⟨r1.size, by omega, hyb, ⟨hc1, r5⟩, ⟨by omega, by omega⟩, hwb, hL, r2⟩
  have hub : UB w0 W A yb c1 w2.heap.size wb (machOf l).1 s (.func (.func 29) #[] #[d0, d1]) wl.heap.size A wl := ⟨fun _ h => h, fun _ h => .inl h, Upd.of_below hbWl, r1.trans (hbWl.mono r1.size), (hbdl.cell (p := ⟨yb, 0, none⟩) (World.block_lt_of_cell? _ _ hy0)).trans hy0, hS3.2, hcw, by
    obtain ⟨D, _, _, hWk⟩ := h.at'
    obtain ⟨_, _, _, _, q0, _⟩ := hWk.facts
    exact ((r1.trans (hbWl.mono r1.size)).cell (p := ⟨wb, 0, none⟩) hwb).trans q0⟩
  have HN : Hid (UN w0 W A yb c1 w2.heap.size wb wl.heap.size) := hn
  have hr63 : r ≤ 9223372036854775807 := by have := hfa.le; omega
  have hSl : ∀ V, Below wl.heap.size wl V → FS w0 wb w2.heap.size (w2.heap.size + 1) r (fun k => A k ∨ k = wl.heap.size + 1 ∨ k = wl.heap.size) V := fun V hV => by
    have hbl : Below w0.heap.size w0 wl := r1.trans (hbWl.mono r1.size)
    refine ⟨hbl.trans (hV.mono hbl.size), fun j hj => ?_, (hV.cell (p := ⟨w2.heap.size, 0, none⟩) (by show w2.heap.size < _; omega)).trans hcw, (hV.cell (p := ⟨w2.heap.size + 1, 0, none⟩) (by show w2.heap.size + 1 < _; omega)).trans hci, fun e => ?_⟩
    · rcases hj with e | e | e
      · exact r2 j e
      · have := hbl.size; omega
      · have := hbl.size; omega
    · rcases e with e | e | e
      · have := hL _ e; omega
      · omega
      · omega
  have hfin : ∀ A' V, UB w0 W A yb c1 w2.heap.size wb (machOf l).1 s (.func (.func 29) #[] #[d0, d1]) wl.heap.size A' V → Lies A' V → ((∃ q, (l.drop r).takeWhile (fun x => hpB x.1 s) = q ∧ I A' q V) ∨ ∃ q, q <+: (l.drop r).takeWhile (fun x => hpB x.1 s) ∧ X A' q V) → ∀ v, R (.returned v) (V.putObj wl.heap.size (.deferred none)) := fun A' V u1 hl' hc v => by
    have hW := hn.WB
    have hna : ¬ A' wl.heap.size := fun e => (u1.ex2 _ e).elim (fun g => by have := hL _ g; omega) (fun g => by omega)
    have hu : Upd (fun k => k = wl.heap.size) V (V.putObj wl.heap.size (.deferred none)) := Upd.put _ _
    have hm : Upd (fun k => ¬ A' k ∧ W.heap.size ≤ k) V (V.putObj wl.heap.size (.deferred none)) := hu.mono fun k e => by subst e; exact ⟨hna, by omega⟩
    have x1 : Ext A A' W := ⟨u1.ext, fun k hk => (u1.ex2 k hk).imp_right fun g => by omega⟩
    have x2 : Lies A' (V.putObj wl.heap.size (.deferred none)) := fun k hk => Nat.lt_of_lt_of_le (hl' k hk) hu.size
    have x3 : Upd A W (V.putObj wl.heap.size (.deferred none)) := u1.upd.trans hu (fun k hk g => by omega)
    rw [← HR.out]
    refine ⟨⟨v, rfl⟩, ?_⟩
    rw [under_while hpw hfa]
    rcases hc with ⟨q, hq, hi⟩ | ⟨q, hq, hx⟩
    · exact .inl ⟨A', x1, x2, x3, by rw [hq]; exact hMI _ _ _ _ hi hm⟩
    · exact .inr ⟨q, A', hq, x1, x2, x3, hMX _ _ _ _ hx hm⟩
  clear hS3 hS2 hS1 hwl
  refine ⟨fun _ => nofun, ?_⟩
  go_wp2
  refine wp_rangeC (gf := 46) (lb := #[.pointer (some ⟨w2.heap.size, 0, none⟩), .pointer (some ⟨w2.heap.size + 1, 0, none⟩)]) rfl (enters_of Tryd.func46 (by kernel_rfl) rfl) (from_seq w0 wb l h w2.heap.size (w2.heap.size + 1) r hr63) rfl
    (UI w0 W A yb c1 w2.heap.size wb (machOf l).1 s (.func (.func 29) #[] #[d0, d1]) wl.heap.size I) (UX w0 W A yb c1 w2.heap.size wb (machOf l).1 s (.func (.func 29) #[] #[d0, d1]) wl.heap.size I X)
    A (fun j hj => Nat.lt_of_lt_of_le (hL j hj) hbWl.size) hSl (UI.minds hn hMI) (UX.minds hn hMI hMX) ⟨hub, fun p hp => (by simp at hp), hMI _ _ _ _ h0 (Upd.of_below hbWl)⟩ ?_ ?_ ?_
  · rintro n lp A2 pre x V ⟨u1, u2, u3⟩ hl2 hnl hlt
    obtain ⟨x1, x2⟩ := x
    simp only [pairV]
    have hW2s : ∀ W2, Upd (fun k => k = wl.heap.size + 1) V W2 → UB w0 W A yb c1 w2.heap.size wb (machOf l).1 s (.func (.func 29) #[] #[d0, d1]) wl.heap.size A2 W2 ∧ I A2 pre W2 ∧ Lies A2 W2 ∧ wl.heap.size + 1 < W2.heap.size := fun W2 hu => ⟨u1.step hn hu (fun k e => .inr (by omega)) u1.ext u1.ex2, hMI _ _ _ _ u3 (hu.mono fun k e => ⟨fun g => hnl (e ▸ g), by have := hn.WB; omega⟩), fun j hj => Nat.lt_of_lt_of_le (hl2 j hj) hu.size, Nat.lt_of_lt_of_le hlt hu.size⟩
    have HW2 : Hid _ := hW2s
    have HU2 : Hid (∀ p ∈ pre, hpB p.1 s = true) := u2
    have HLT : Hid (wl.heap.size + 1 < V.heap.size) := hlt
    clear hW2s u1 u2 u3 hl2 hlt hs0 hs0d hs2 hsl hyb hn hub
    gi_wp2
    refine ⟨Upd.of_below ((Below.refl _ V).alloc (Nat.le_refl _) _), fun W2 hu2 => ?_⟩
    have hlt := HLT.out
    have hua : Upd (fun j => j = wl.heap.size + 1) V W2 := (Upd.of_below (F := fun j => j = wl.heap.size + 1) ((Below.refl _ V).alloc (Nat.le_refl _) _)).trans hu2 (fun _ _ g => g)
    obtain ⟨v1, v2, v3, v4⟩ := HW2.out W2 hua
    have hp2 : W2.heap[V.heap.size]? = some (.cells #[.string x1, .int .i64 x2] 39) := (hu2.block V.heap.size (by simp) (fun e => by omega)).trans (alloc_newP _ _)
    obtain ⟨pb, hpb⟩ : ∃ pb, pb = V.heap.size := ⟨_, rfl⟩
    rw [← hpb] at hp2 ⊢
    have p0 : W2.cell? ⟨pb, 0, none⟩ = some (.string x1) := by simp [World.cell?, hp2]
    have p1 : W2.cell? ⟨pb, 1, none⟩ = some (.int .i64 x2) := by simp [World.cell?, hp2]
    have y0 := v1.yc
    have y1 := v1.cc
    have HV1 : Hid _ := v1
    have HP : Hid (∀ n, CallsIn (Fence.wide.inRound lp) n Tryd.prog 38 #[.string x1, .string s] W2 fun e w' => e = .returned (.bool (hpB x1 s)) ∧ w' = W2) := fun n => CallsIn.inRound lp (callsIn_wide.2 (hasPrefixS_any x1 s W2))
    have HY : Hid (∀ n, CallsIn (Fence.wide.inRound lp) n Tryd.prog 29 #[.agg #[.string x1, .int .i64 x2], d0, d1] W2 (YPost I X A2 pre (x1, x2) W2)) := fun n => CallsIn.inRound lp (callsIn_wide.2 (hY A2 pre (x1, x2) W2 v2 v3).told)
    clear hp2 hpb hua hu2 hlt v1
    by_cases hb : hpB x1 s = true
    · rw [hb] at HP
      have HB : Hid (hpB x1 s = true) := hb
      clear hb
      gi_wp2_with (first
        | (refine ⟨trivial, (fun h => by simp [Fence.wide] at h), ?_⟩; gi_at_call 38; refine (HP.out _).mono ?_; rintro e w' ⟨rfl, hw'⟩; rw [hw']; clear hw')
        | (refine ⟨trivial, (fun h => by simp [Fence.wide] at h), ?_⟩; gi_at_call 29; refine (HY.out _).mono ?_; rintro e w3 hyp; obtain ⟨b, A3, rfl, e1, e2, e3, e4⟩ := hyp.one; clear hyp))
      all_goals (
        have hpr : ∀ p ∈ pre ++ [(x1, x2)], hpB p.1 s = true := fun p hp => by
          rcases List.mem_append.1 hp with g | g
          · exact HU2.out p g
          · rw [List.mem_singleton.1 g]; exact HB.out
        have hub3 := HV1.out.step (A3 := A3) HN.out e3 (fun k g => .inl g) (fun k g => e1.1 k (HV1.out.ext k g)) (fun k g => (e1.2 k g).elim (HV1.out.ex2 k) (fun g => .inr (by omega))))
      · refine ⟨A3, e1, e2, e3, rfl, hub3, .inr ⟨hpr, ?_⟩⟩
        have hb : b = false := by cases b with | false => rfl | true => (rename_i g; cases g)
        rw [hb] at e4
        exact e4
      · refine ⟨A3, e1, e2, e3, hub3, hpr, ?_⟩
        have hb : b = true := by cases b with | true => rfl | false => (rename_i g; cases g)
        rw [hb, if_pos rfl] at e4
        exact e4
    · rw [Bool.not_eq_true] at hb
      rw [hb] at HP
      have HB : Hid (hpB x1 s = false) := hb
      clear hb
      gi_wp2_with (first
        | (refine ⟨trivial, (fun h => by simp [Fence.wide] at h), ?_⟩; gi_at_call 38; refine (HP.out _).mono ?_; rintro e w' ⟨rfl, hw'⟩; rw [hw']; clear hw'))
      refine ⟨(fun f hf => nomatch hf), ?_⟩
      gi_wp2
      exact ⟨A2, Ext.refl _ _, v3, Upd.refl _ _, rfl, HV1.out, .inl ⟨pre, _, rfl, HB.out, HU2.out, v2⟩⟩
  · rintro A' V hl' ⟨u1, u2, u3⟩ hD
    have HD : Hid (V.heap[wl.heap.size]? = some (.deferred (some []))) := hD
    have HF : Hid (∀ v, R (.returned v) (V.putObj wl.heap.size (.deferred none))) := hfin A' V u1 hl' (.inl ⟨l.drop r, while_all u2, u3⟩)
    clear hs0 hs0d hs2 hsl hn hub hyb u1 u2 u3 hD hfin
    generalize wl.heap.size = db at *
    go_wp2
    obtain ⟨v, hv⟩ := un_results #[Value.func (Fn.func 29) #[] #[d0, d1], Value.pointer (some { block := c0, off := 0 }), Value.pointer (some { block := c1, off := 0 }), Value.pointer (some { block := yb, off := 0 }), undef, Value.pointer (some { block := wb, off := 0 }), Value.pointer (some { block := wb, off := 0 }), Value.string s, Value.int IntKind.i64 r, Value.func (Fn.func 46) #[] #[Value.pointer (some { block := w2.heap.size, off := 0 }), Value.pointer (some { block := w2.heap.size + 1, off := 0 })], undef, undef, undef, undef, undef, undef, undef, undef, undef, undef, undef, undef] (V.putObj db (.deferred none))
    exact ⟨by simp, .inl ⟨_, _, rfl, run_takeDeferred HD.out, _, hv, HF.out _⟩⟩
  · rintro c A' q V hq hl' ⟨rfl, u1, u2⟩ hD
    have HD : Hid (V.heap[wl.heap.size]? = some (.deferred (some []))) := hD
    have HF : Hid (∀ v, R (.returned v) (V.putObj wl.heap.size (.deferred none))) := hfin A' V u1 hl' (by
      rcases u2 with ⟨q', x, rfl, g1, g2, g3⟩ | ⟨g1, g2⟩
      · exact .inl ⟨q', while_cut hq g2 g1, g3⟩
      · exact .inr ⟨q, while_pre hq g1, g2⟩)
    clear hs0 hs0d hs2 hsl hn hub hyb u1 u2 hD hfin
    generalize wl.heap.size = db at *
    go_wp2
    obtain ⟨v, hv⟩ := un_results #[Value.func (Fn.func 29) #[] #[d0, d1], Value.pointer (some { block := c0, off := 0 }), Value.pointer (some { block := c1, off := 0 }), Value.pointer (some { block := yb, off := 0 }), undef, Value.pointer (some { block := wb, off := 0 }), Value.pointer (some { block := wb, off := 0 }), Value.string s, Value.int IntKind.i64 r, Value.func (Fn.func 46) #[] #[Value.pointer (some { block := w2.heap.size, off := 0 }), Value.pointer (some { block := w2.heap.size + 1, off := 0 })], undef, undef, undef, undef, undef, undef, undef, undef, undef, undef, undef, undef] (V.putObj db (.deferred none))
    exact ⟨by simp, .inl ⟨_, _, rfl, run_takeDeferred HD.out, _, hv, HF.out _⟩⟩
end Go.Proofs.YthjlihhknaelaaaDoor
