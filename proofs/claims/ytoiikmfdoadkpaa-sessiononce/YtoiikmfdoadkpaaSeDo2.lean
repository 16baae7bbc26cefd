/- A script's call: Keep. -/
import Derived.Test.YtoiikmfdoadkpaaSeDoB
namespace Go.Proofs.Ytoiikmfdoadkpaa
open Go.RowKit Go.Lib
set_option maxRecDepth 100000
namespace Se
attribute [local go_sem ↓] exec_load_A exec_store_A exec_load_T exec_store_T
set_option maxHeartbeats 4000000 in
theorem does2 (B : Nat) (w : World) (p : Nat) (v : Value) (l : List Rw) (x : Tb) (m : Nat) (ks : List Kp) (o : Oo) (S : DSt B w p v l x m ks) (hl : l.length ≤ 1099511627775) (hk : ks.length ≤ 549755813888) (ho : o.1 = 2) : Calls Try.prog 11 #[.pointer (some ⟨p, 0, none⟩), valT x, valO o] w fun e w' => DoEnd B w p v l m ks o e w' := by
  obtain ⟨V3, hV3, hW3, hb3, e3⟩ := do_begin w x o
  obtain ⟨q0, hq0⟩ : ∃ q, w.heap.size = q := ⟨_, rfl⟩
  have S3 := S.below hb3
  have hTlt : ∀ k, TF p v k → k < q0 := fun k hk => by rw [← hq0]; exact TF.here S.tab hk
  have hXlt : ∀ g, (tvs x).ownBlock = some g → g < q0 := fun g hg => by rw [← hq0]; exact S.ref.2.lt hg
  rw [hq0] at hW3 e3
  obtain ⟨c0, c1, c2, hla, hld⟩ := hW3.ops
  have HK := Keep_any B V3 p v l o.2.1 o.2.2.1 o.2.2.2 S3.tab (by omega)
  have HR : Hid (∀ w4, Upd (TF p v) V3 w4 → (w4.cell? ⟨q0 + 1, 1, none⟩ = some (.int .u64 o.2.1) ∧ w4.cell? ⟨q0 + 1, 2, none⟩ = some (.int .u64 o.2.2.1) ∧ loadA Try.prog (.pointer (some ⟨q0 + 1, 3, none⟩)) w4 = .ok (valA o.2.2.2) w4 ∧ loadT Try.prog (.pointer (some ⟨q0, 0, none⟩)) w4 = .ok (valT x) w4) ∧ Calls Try.prog 22 #[valT x, .int .u64 o.2.1, .int .u64 o.2.2.1, valA o.2.2.2] w4 fun e w' => ∃ ad2 n2 c2, e = .returned (.tuple #[.agg #[.int .u64 m, .slice ad2 n2 c2], .bool (rkeepB m ks o.2.1 o.2.2.1)]) ∧ KAt w' ((m : Int), ad2, n2, c2) m (rkeepK m ks o.2.1 o.2.2.1 o.2.2.2) ∧ Below w4.heap.size w4 w' ∧ ((Value.slice ad2 n2 c2).ownBlock = (tvs x).ownBlock ∨ ∀ g, (Value.slice ad2 n2 c2).ownBlock = some g → w4.heap.size ≤ g)) := fun w4 u => by
    obtain ⟨_, d1, d2, d3, d4⟩ := (hW3.upd u (fun k h1 _ hk => by have := hTlt k hk; omega)).ops
    exact ⟨⟨d1, d2, d3, d4⟩, rKeep_any w4 x m ks _ _ _ (S3.ref.upd u (fun g hg hk => S3.ap g hg hk)) hk⟩
  have HEND : Hid (∀ w4 w5 ad n c, TAt B w4 p v (keepL l o.2.1 o.2.2.1 o.2.2.2) → Upd (TF p v) V3 w4 → KAt w5 ((m : Int), ad, n, c) m (rkeepK m ks o.2.1 o.2.2.1 o.2.2.2) → Below w4.heap.size w4 w5 → ((Value.slice ad n c).ownBlock = (tvs x).ownBlock ∨ ∀ g, (Value.slice ad n c).ownBlock = some g → w4.heap.size ≤ g) → ∃ W6 W, storeT Try.prog (.pointer (some ⟨w5.heap.size, 0, none⟩)) (valT ((m : Int), ad, n, c)) (w5.alloc zT) = .ok () W6 ∧ loadT Try.prog (.pointer (some ⟨w5.heap.size, 0, none⟩)) W6 = .ok (valT ((m : Int), ad, n, c)) W6 ∧ storeT Try.prog (.pointer (some ⟨q0 + 1 + 1, 0, none⟩)) (valT ((m : Int), ad, n, c)) W6 = .ok () W ∧ Hid (CAt W (q0 + 1 + 1) 0 (cellsT ((m : Int), ad, n, c)) ∧ DSt B W p v (keepL l o.2.1 o.2.2.1 o.2.2.2) ((m : Int), ad, n, c) m (rkeepK m ks o.2.1 o.2.2.1 o.2.2.2) ∧ Upd (TF p v) w W)) := fun w4 w5 ad n c T4 u4 K5 b5 hx => by
    have hs4 := u4.size
    have hs5 := b5.size
    obtain ⟨W6, hst6, hb6, hc6⟩ := new_storeT w5 ((m : Int), ad, n, c)
    have hs6 := hb6.size
    have hW6 := (((hW3.upd u4 (fun k h1 _ hk => by have := hTlt k hk; omega)).below b5).below hb6)
    obtain ⟨W, hst, hcW, huW⟩ := hW6.store ((m : Int), ad, n, c)
    have hxg : ∀ g, (Value.slice ad n c).ownBlock = some g → g < q0 ∨ q0 + 1 + 1 + 1 ≤ g := fun g hg => by
      rcases hx with h | h
      · exact .inl (hXlt g (h.symm.trans hg))
      · have := h g hg; omega
    refine ⟨W6, W, hst6, own_loadT hc6, hst, hcW, ⟨((T4.below b5).below hb6).upd huW (fun k hk e => by have := hTlt k hk; have : k = q0 + 1 + 1 := e; omega), (K5.below hb6).upd huW (fun g hg e => by have := hxg g hg; have : g = q0 + 1 + 1 := e; omega), fun g hg hk => ?_⟩, ?_⟩
    · rcases hx with h | h
      · exact S.ap g (h.symm.trans hg) hk
      · have := h g hg; have := hTlt g hk; omega
    · have u1 : Upd (TF p v) w w4 := (upd_of_below hb3).trans u4 (fun _ _ h => h)
      have u2 : Upd (TF p v) w W6 := (u1.trans (upd_of_below (F := fun _ => False) b5) (fun _ _ h => h.elim)).trans (upd_of_below (F := fun _ => False) hb6) (fun _ _ h => h.elim)
      exact u2.trans huW (fun k hk e => by have : k = q0 + 1 + 1 := e; omega)
  unfold DoEnd
  have eM : doM m o = m := by unfold doM; rw [if_neg (by rw [ho]; decide)]
  have eK : doK m ks o = rkeepK m ks o.2.1 o.2.2.1 o.2.2.2 := by unfold doK; rw [if_pos ho]
  have eL : doL l o = keepL l o.2.1 o.2.2.1 o.2.2.2 := by unfold doL; rw [if_neg (by rw [ho]; decide), if_neg (by rw [ho]; decide), if_pos ho]
  have eB : doB l m ks o = (keepB l o.2.1 o.2.2.1 == rkeepB m ks o.2.1 o.2.2.1) := by unfold doB; rw [if_neg (by rw [ho]; decide), if_neg (by rw [ho]; decide), if_pos ho]
  rw [eM, eK, eL, eB]
  clear eM eK eL eB S S3 hW3 hb3 hTlt hXlt
  obtain ⟨m', ad0, n0, cap0⟩ := x
  obtain ⟨kd, id, seq, a⟩ := o
  simp only at ho
  subst ho
  simp only at *
  generalize rkeepB m ks id seq = b2 at *
  generalize keepB l id seq = b1 at *
  unfold zT at hV3 HEND
  unfold valT valA at *
  unfold valO
  simp only [cellsO, cellsT] at hV3
  go_enter Try.func11, Try.ntmps11
  go_wp2_with (first
    | (go_at_call 18; go_loud (refine HK.mono ?_; rintro e w4 ⟨rfl, hT4, hu4⟩; obtain ⟨⟨d1, d2, d3, d4⟩, HRC⟩ := HR.out w4 hu4; have H4 : Hid (TAt B w4 p v (keepL l id seq a) ∧ Upd (TF p v) V3 w4) := ⟨hT4, hu4⟩; clear hT4 hu4))
    | (go_at_call 22; go_loud (refine HRC.mono ?_; rintro e w5 ⟨ad, n, c, rfl, hK5, hb5, hx5⟩; obtain ⟨W6, W, h1, h2, h3, HF⟩ := HEND.out w4 w5 ad n c H4.out.1 H4.out.2 hK5 hb5 hx5; clear hK5 hb5 hx5 HRC)))
  refine bodyPost_ret (do_results rfl HF.out.1) rfl ?_
  exact ⟨_, _, _, _, rfl, HF.out.2.1, HF.out.2.2, .inl rfl⟩
end Se
end Go.Proofs.Ytoiikmfdoadkpaa
