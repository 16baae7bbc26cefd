/- A script's call: Open; no call. -/
import Derived.Test.YtoiikmfdoadkpaaSeDoB
namespace Go.Proofs.Ytoiikmfdoadkpaa
open Go.RowKit Go.Lib
set_option maxRecDepth 100000
namespace Se
attribute [local go_sem ↓] exec_load_A exec_store_A exec_load_T exec_store_T
set_option maxHeartbeats 4000000 in
theorem does0 (B : Nat) (w : World) (p : Nat) (v : Value) (l : List Rw) (x : Tb) (m : Nat) (ks : List Kp) (o : Oo) (S : DSt B w p v l x m ks) (hl : l.length ≤ 1099511627775) (hm : m ≤ 1099511627776) (ho : o.1 = 0) : Calls Try.prog 11 #[.pointer (some ⟨p, 0, none⟩), valT x, valO o] w fun e w' => DoEnd B w p v l m ks o e w' := by
  obtain ⟨V3, hV3, hW3, hb3, e3⟩ := do_begin w x o
  obtain ⟨q0, hq0⟩ : ∃ q, w.heap.size = q := ⟨_, rfl⟩
  have S3 := S.below hb3
  have hTlt : ∀ k, TF p v k → k < q0 := fun k hk => by rw [← hq0]; exact TF.here S.tab hk
  have hXlt : ∀ g, (tvs x).ownBlock = some g → g < q0 := fun g hg => by rw [← hq0]; exact S.ref.2.lt hg
  rw [hq0] at hW3 e3
  obtain ⟨c0, c1, c2, hla, hld⟩ := hW3.ops
  have HK := Open_any B V3 p v l S3.tab hl
  have HR : Hid (∀ w4, Upd (TF p v) V3 w4 → loadT Try.prog (.pointer (some ⟨q0, 0, none⟩)) w4 = .ok (valT x) w4 ∧ Calls Try.prog 20 #[valT x] w4 fun e w' => e = .returned (.tuple #[valT (ropenT x m), .int .u64 (ropenE m).1, .int .i64 (ropenE m).2]) ∧ Below w4.heap.size w4 w') := fun w4 u => by
    obtain ⟨_, _, _, _, d4⟩ := (hW3.upd u (fun k h1 _ hk => by have := hTlt k hk; omega)).ops
    exact ⟨d4, rOpen_any w4 x m ks (S3.ref.upd u (fun g hg hk => S3.ap g hg hk)) hm⟩
  have HEND : Hid (∀ w4 v4 w5, TAt B w4 p v4 (openL l) → Upd (TF p v) V3 w4 → (v4.ownBlock = v.ownBlock ∨ ∃ g, v4.ownBlock = some g ∧ V3.heap.size ≤ g) → Below w4.heap.size w4 w5 → ∃ W6 W, storeT Try.prog (.pointer (some ⟨w5.heap.size, 0, none⟩)) (valT (ropenT x m)) (w5.alloc zT) = .ok () W6 ∧ loadT Try.prog (.pointer (some ⟨w5.heap.size, 0, none⟩)) W6 = .ok (valT (ropenT x m)) W6 ∧ storeT Try.prog (.pointer (some ⟨q0 + 1 + 1, 0, none⟩)) (valT (ropenT x m)) W6 = .ok () W ∧ Hid (CAt W (q0 + 1 + 1) 0 (cellsT (ropenT x m)) ∧ DSt B W p v4 (openL l) (ropenT x m) (ropenM m) ks ∧ Upd (TF p v) w W ∧ (v4.ownBlock = v.ownBlock ∨ ∃ g, v4.ownBlock = some g ∧ q0 ≤ g))) := fun w4 v4 w5 T4 u4 hv4 b5 => by
    have hs4 := u4.size
    have hs5 := b5.size
    obtain ⟨W6, hst6, hb6, hc6⟩ := new_storeT w5 (ropenT x m)
    have hs6 := hb6.size
    have hW6 := (((hW3.upd u4 (fun k h1 _ hk => by have := hTlt k hk; omega)).below b5).below hb6)
    obtain ⟨W, hst, hcW, huW⟩ := hW6.store (ropenT x m)
    have hvg : ∀ k, TF p v4 k → TF p v k ∨ V3.heap.size ≤ k := fun k hk => by
      rcases hk with rfl | hk
      · exact .inl (.inl rfl)
      · rcases hv4 with h | ⟨g, h, hg⟩
        · exact .inl (.inr (h.symm.trans hk))
        · rw [h] at hk; cases hk; exact .inr hg
    have K4 : KAt w4 (ropenT x m) (ropenM m) ks := (S3.ref.upd u4 (fun g hg hk => S3.ap g hg hk)).opened
    refine ⟨W6, W, hst6, own_loadT hc6, hst, hcW, ⟨((T4.below b5).below hb6).upd huW (fun k hk e => by
      have e2 : k = q0 + 1 + 1 := e
      rcases hvg k hk with h | h
      · have := hTlt k h; omega
      · omega), ((K4.below b5).below hb6).upd huW (fun g hg e => by have := hXlt g hg; have : g = q0 + 1 + 1 := e; omega), fun g hg hk => ?_⟩, ?_, ?_⟩
    · rcases hvg g hk with h | h
      · exact S.ap g hg h
      · have := hXlt g hg; omega
    · have u1 : Upd (TF p v) w w4 := (upd_of_below hb3).trans u4 (fun _ _ h => h)
      have u2 : Upd (TF p v) w W6 := (u1.trans (upd_of_below (F := fun _ => False) b5) (fun _ _ h => h.elim)).trans (upd_of_below (F := fun _ => False) hb6) (fun _ _ h => h.elim)
      exact u2.trans huW (fun k hk e => by have : k = q0 + 1 + 1 := e; omega)
    · rcases hv4 with h | ⟨g, h, hg⟩
      · exact .inl h
      · exact .inr ⟨g, h, by omega⟩
  unfold DoEnd
  have eM : doM m o = ropenM m := by unfold doM; rw [if_pos ho]
  have eK : doK m ks o = ks := by unfold doK; rw [if_neg (by rw [ho]; decide)]
  have eL : doL l o = openL l := by unfold doL; rw [if_pos ho]
  have eB : doB l m ks o = ((openE l).1 == (ropenE m).1 && (openE l).2 == (ropenE m).2) := by unfold doB; rw [if_pos ho]
  rw [eM, eK, eL, eB]
  clear eM eK eL eB S S3 hW3 hb3 hTlt hXlt
  obtain ⟨m', ad0, n0, cap0⟩ := x
  obtain ⟨kd, id, seq, a⟩ := o
  simp only at ho
  subst ho
  unfold ropenT at *
  simp only at *
  generalize ropenM m = m2 at *
  generalize ropenE m = r at *
  generalize openE l = s at *
  obtain ⟨r1, r2⟩ := r
  obtain ⟨s1, s2⟩ := s
  simp only at *
  unfold zT at hV3 HEND
  unfold valT at *
  unfold valA at hla
  unfold valO
  simp only [cellsO, cellsT] at hV3
  by_cases g1 : s1 = r1
  · subst g1
    by_cases g2 : s2 = r2
    · subst g2
      go_enter Try.func11, Try.ntmps11
      go_wp2_with (first
        | (go_at_call 16; go_loud (refine HK.mono ?_; rintro e w4 ⟨rfl, v4, hT4, hu4, hv4⟩; obtain ⟨d4, HRC⟩ := HR.out w4 hu4; have H4 : Hid (TAt B w4 p v4 (openL l) ∧ Upd (TF p v) V3 w4 ∧ (v4.ownBlock = v.ownBlock ∨ ∃ g, v4.ownBlock = some g ∧ V3.heap.size ≤ g)) := ⟨hT4, hu4, hv4⟩; clear hT4 hu4 hv4))
        | (go_at_call 20; go_loud (refine HRC.mono ?_; rintro e w5 ⟨rfl, hb5⟩; obtain ⟨W6, W, h1, h2, h3, HF⟩ := HEND.out w4 v4 w5 H4.out.1 H4.out.2.1 H4.out.2.2 hb5; clear hb5 HRC)))
      refine bodyPost_ret (do_results rfl HF.out.1) rfl ?_
      exact ⟨_, _, _, v4, by first | rfl | simp [valT, *], HF.out.2.1, HF.out.2.2.1, by first | exact HF.out.2.2.2 | (rw [hq0]; exact HF.out.2.2.2)⟩
    · have g3 : (s2 == r2) = false := by simpa using g2
      clear g2
      go_enter Try.func11, Try.ntmps11
      go_wp2_with (first
        | (go_at_call 16; go_loud (refine HK.mono ?_; rintro e w4 ⟨rfl, v4, hT4, hu4, hv4⟩; obtain ⟨d4, HRC⟩ := HR.out w4 hu4; have H4 : Hid (TAt B w4 p v4 (openL l) ∧ Upd (TF p v) V3 w4 ∧ (v4.ownBlock = v.ownBlock ∨ ∃ g, v4.ownBlock = some g ∧ V3.heap.size ≤ g)) := ⟨hT4, hu4, hv4⟩; clear hT4 hu4 hv4))
        | (go_at_call 20; go_loud (refine HRC.mono ?_; rintro e w5 ⟨rfl, hb5⟩; obtain ⟨W6, W, h1, h2, h3, HF⟩ := HEND.out w4 v4 w5 H4.out.1 H4.out.2.1 H4.out.2.2 hb5; clear hb5 HRC)))
      refine bodyPost_ret (do_results rfl HF.out.1) rfl ?_
      exact ⟨_, _, _, v4, by first | rfl | simp [valT, *], HF.out.2.1, HF.out.2.2.1, by first | exact HF.out.2.2.2 | (rw [hq0]; exact HF.out.2.2.2)⟩
  · have g3 : (s1 == r1) = false := by simpa using g1
    clear g1
    go_enter Try.func11, Try.ntmps11
    go_wp2_with (first
      | (go_at_call 16; go_loud (refine HK.mono ?_; rintro e w4 ⟨rfl, v4, hT4, hu4, hv4⟩; obtain ⟨d4, HRC⟩ := HR.out w4 hu4; have H4 : Hid (TAt B w4 p v4 (openL l) ∧ Upd (TF p v) V3 w4 ∧ (v4.ownBlock = v.ownBlock ∨ ∃ g, v4.ownBlock = some g ∧ V3.heap.size ≤ g)) := ⟨hT4, hu4, hv4⟩; clear hT4 hu4 hv4))
      | (go_at_call 20; go_loud (refine HRC.mono ?_; rintro e w5 ⟨rfl, hb5⟩; obtain ⟨W6, W, h1, h2, h3, HF⟩ := HEND.out w4 v4 w5 H4.out.1 H4.out.2.1 H4.out.2.2 hb5; clear hb5 HRC)))
    refine bodyPost_ret (do_results rfl HF.out.1) rfl ?_
    exact ⟨_, _, _, v4, by first | rfl | simp [valT, *], HF.out.2.1, HF.out.2.2.1, by first | exact HF.out.2.2.2 | (rw [hq0]; exact HF.out.2.2.2)⟩
set_option maxHeartbeats 4000000 in
theorem doesN (B : Nat) (w : World) (p : Nat) (v : Value) (l : List Rw) (x : Tb) (m : Nat) (ks : List Kp) (o : Oo) (S : DSt B w p v l x m ks) (h0 : o.1 ≠ 0) (h1 : o.1 ≠ 1) (h2 : o.1 ≠ 2) : Calls Try.prog 11 #[.pointer (some ⟨p, 0, none⟩), valT x, valO o] w fun e w' => DoEnd B w p v l m ks o e w' := by
  obtain ⟨V3, hV3, hW3, hb3, e3⟩ := do_begin w x o
  obtain ⟨q0, hq0⟩ : ∃ q, w.heap.size = q := ⟨_, rfl⟩
  have S3 := S.below hb3
  have hTlt : ∀ k, TF p v k → k < q0 := fun k hk => by rw [← hq0]; exact TF.here S.tab hk
  have hXlt : ∀ g, (tvs x).ownBlock = some g → g < q0 := fun g hg => by rw [← hq0]; exact S.ref.2.lt hg
  rw [hq0] at hW3 e3
  obtain ⟨c0, c1, c2, hla, hld⟩ := hW3.ops
  obtain ⟨W, hst, hcW, huW⟩ := hW3.store x
  have HF : Hid (CAt W (q0 + 1 + 1) 0 (cellsT x) ∧ DSt B W p v l x m ks ∧ Upd (TF p v) w W) := ⟨hcW, S3.upd huW (fun k hk e => by have := hTlt k hk; have : k = q0 + 1 + 1 := e; omega) (fun g hg e => by have := hXlt g hg; have : g = q0 + 1 + 1 := e; omega), (upd_of_below hb3).trans huW (fun k hk e => by have : k = q0 + 1 + 1 := e; omega)⟩
  have hx := S.ref.1
  unfold DoEnd
  have eM : doM m o = m := by unfold doM; rw [if_neg h0]
  have eK : doK m ks o = ks := by unfold doK; rw [if_neg h2]
  have eL : doL l o = l := by unfold doL; rw [if_neg h0, if_neg h1, if_neg h2]
  have eB : doB l m ks o = true := by unfold doB; rw [if_neg h0, if_neg h1, if_neg h2]
  rw [eM, eK, eL, eB]
  clear eM eK eL eB S S3 hW3 hb3 hTlt hXlt hcW huW
  obtain ⟨m', ad0, n0, cap0⟩ := x
  obtain ⟨kd, id, seq, a⟩ := o
  simp only at *
  subst hx
  have g0 : (kd == 0) = false := by simpa using h0
  have g1 : (kd == 1) = false := by simpa using h1
  have g2 : (kd == 2) = false := by simpa using h2
  clear h0 h1 h2
  unfold zT at hV3
  unfold valT valA at *
  unfold valO
  simp only [cellsO, cellsT] at hV3
  go_enter Try.func11, Try.ntmps11
  go_wp2
  refine bodyPost_ret (do_results rfl HF.out.1) rfl ?_
  exact ⟨_, _, _, rfl, v, HF.out.2.1, HF.out.2.2, .inl rfl⟩
end Se
end Go.Proofs.Ytoiikmfdoadkpaa
