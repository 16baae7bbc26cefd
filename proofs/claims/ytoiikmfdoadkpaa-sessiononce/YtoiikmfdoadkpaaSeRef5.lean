/- The reference's Keep. -/
import Derived.Test.YtoiikmfdoadkpaaSeRef4
namespace Go.Proofs.Ytoiikmfdoadkpaa
open Go.RowKit Go.Lib
set_option maxRecDepth 100000
namespace Se
attribute [local go_sem ↓] exec_load_A exec_store_A exec_load_T exec_store_T exec_load_K exec_store_K
theorem rk_results {tmps : Array Value} {w : World} {rb : Nat} {x : Tb} (h2 : tmps.getD 8 undef = .pointer (some ⟨rb, 0, none⟩)) (c : CAt w rb 0 (cellsT x)) : (results Try.f22 tmps).run Try.prog w = .ok (.tuple #[valT x, tmps.getD 9 undef]) w := by
  have c0 := c 0 _ rfl
  have c1 := c 1 _ rfl
  simp only [Nat.add_zero] at c0
  have h2' : tmps[8]?.getD undef = .pointer (some ⟨rb, 0, none⟩) := by simpa using h2
  simp [results, Try.results22, go_sem, h2', c0, c1, valT]
theorem field_K1 (b0 b1 b2 b3 b4 : Value) (w : World) : (Instr.field 62 (.agg #[b0, b1, b2, b3, b4]) 1).run Try.prog w = .ok b1 w := by kernel_rfl
attribute [local go_sem] field_K1
/-- How Keep's blocks lie. -/
structure KpW (q : Nat) (x : Tb) (a : An) (w : World) : Prop where
  box : w.heap[q]? = some (.cells (cellsT x).toArray 29)
  boxA : w.heap[q + 1]? = some (.cells (cellsA a).toArray 32)
  res : w.heap[q + 1 + 1]? = some zT
theorem KpW.below {q : Nat} {x : Tb} {a : An} {w w' : World} (h : KpW q x a w) (hb : Below (q + 1 + 1 + 1) w w') : KpW q x a w' :=
  ⟨heap_own hb (by omega) h.box, heap_own hb (by omega) h.boxA, heap_own hb (by omega) h.res⟩
/-- What a walk asks of them. -/
theorem KpW.facts {q : Nat} {x : Tb} {a : An} {w : World} (h : KpW q x a w) : w.cell? ⟨q, 0, none⟩ = some (.int .u64 x.1) ∧ w.cell? ⟨q, 1, none⟩ = some (tvs x) ∧ w.frozen? ⟨q, 1, none⟩ = false ∧ loadT Try.prog (.pointer (some ⟨q, 0, none⟩)) w = .ok (valT x) w ∧ loadA Try.prog (.pointer (some ⟨q + 1, 0, none⟩)) w = .ok (valA a) w ∧
    ∃ W, storeT Try.prog (.pointer (some ⟨q + 1 + 1, 0, none⟩)) (valT x) w = .ok () W ∧ Hid (CAt W (q + 1 + 1) 0 (cellsT x) ∧ Below q w W ∧ Upd (fun k => k = q + 1 + 1) w W) := by
  obtain ⟨W, hst, huW, hcW⟩ := own_storeT (ys := [.int .u64 0, .slice none 0 0]) rfl h.res x
  exact ⟨by simp [World.cell?, h.box, cellsT], by simp [World.cell?, h.box, cellsT, tvs], by simp [World.frozen?, h.box], own_loadT h.box, own_loadA h.boxA, W, hst, cat_new hcW, huW.below (B := q) (fun k e => by have : k = q + 1 + 1 := e; omega) (by have := lt_of_heap h.box; omega), huW⟩
theorem KpW.put {q m : Nat} {a : An} {w : World} {ad ad2 : Option Addr} {n cap n2 cap2 : Nat} (h : KpW q ((m : Int), ad, n, cap) a w) : KpW q ((m : Int), ad2, n2, cap2) a (w.setCell ⟨q, 1, none⟩ (.slice ad2 n2 cap2)) :=
  ⟨by simp [World.setCell, Array.getElem?_modify, h.box, cellsT], (Below.heap_setCell _ _ _ _ (by show q + 1 ≠ q; omega)).trans h.boxA, (Below.heap_setCell _ _ _ _ (by show q + 1 + 1 ≠ q; omega)).trans h.res⟩
set_option maxHeartbeats 4000000 in
theorem rKeep_any (w : World) (x : Tb) (m : Nat) (ks : List Kp) (id seq : Int) (a : An) (K : KAt w x m ks) (hl : ks.length ≤ 549755813888) : Calls Try.prog 22 #[valT x, .int .u64 id, .int .u64 seq, valA a] w fun e w' => ∃ ad2 n2 c2, e = .returned (.tuple #[.agg #[.int .u64 m, .slice ad2 n2 c2], .bool (rkeepB m ks id seq)]) ∧ KAt w' ((m : Int), ad2, n2, c2) m (rkeepK m ks id seq a) ∧ Below w.heap.size w w' ∧ ((Value.slice ad2 n2 c2).ownBlock = (tvs x).ownBlock ∨ ∀ g, (Value.slice ad2 n2 c2).ownBlock = some g → w.heap.size ≤ g) := by
  have hx := K.1
  obtain ⟨m', ad, n', cap⟩ := x
  simp only at hx
  subst hx
  obtain ⟨q0, hq0⟩ : ∃ q, w.heap.size = q := ⟨_, rfl⟩
  obtain ⟨V1, hV1⟩ : ∃ V1, w.alloc (.cells #[.int .u64 m, .slice ad n' cap] 29) = V1 := ⟨_, rfl⟩
  have hb1 : Below w.heap.size w V1 := by rw [← hV1]; exact (Below.refl _ w).alloc (Nat.le_refl _) _
  have hn1 : V1.heap[q0]? = some (.cells #[.int .u64 m, .slice ad n' cap] 29) := by rw [← hV1, ← hq0]; exact alloc_newM _ _
  have e1 : V1.heap.size = q0 + 1 := by rw [← hV1, ← hq0]; simp
  obtain ⟨V2, hV2⟩ : ∃ V2, V1.alloc (.cells (cellsA a).toArray 32) = V2 := ⟨_, rfl⟩
  have hb2 : Below V1.heap.size V1 V2 := by rw [← hV2]; exact (Below.refl _ V1).alloc (Nat.le_refl _) _
  have hn2 : V2.heap[q0 + 1]? = some (.cells (cellsA a).toArray 32) := by rw [← hV2, ← e1]; exact alloc_newM _ _
  have e2 : V2.heap.size = q0 + 1 + 1 := by rw [← hV2, ← e1]; simp
  obtain ⟨V3, hV3⟩ : ∃ V3, V2.alloc zT = V3 := ⟨_, rfl⟩
  have hb3 : Below V2.heap.size V2 V3 := by rw [← hV3]; exact (Below.refl _ V2).alloc (Nat.le_refl _) _
  have hn3 : V3.heap[q0 + 1 + 1]? = some zT := by rw [← hV3, ← e2]; exact alloc_newM _ _
  have e3 : V3.heap.size = q0 + 1 + 1 + 1 := by rw [← hV3, ← e2]; simp
  have hwb : Below q0 w V3 := by rw [← hq0]; exact (hb1.trans (hb2.mono (by omega))).trans (hb3.mono (by omega))
  have hW3 : KpW q0 ((m : Int), ad, n', cap) a V3 := ⟨heap_own hb3 (by omega) (heap_own hb2 (by omega) hn1), heap_own hb3 (by omega) hn2, hn3⟩
  have K3 : KAt V3 ((m : Int), ad, n', cap) m ks := K.below (by rw [hq0]; exact hwb)
  have HLT := Latest_any V3 ((m : Int), ad, n', cap) m ks id K3 (by omega)
  obtain ⟨c0, c1, f1, hld, hla, W, hst, HF⟩ := hW3.facts
  have HWB : Hid (Below q0 w V3) := hwb
  unfold zT at hV3
  unfold valT valA at *
  simp only [cellsA] at hV2
  cases hh : rhas m id with
  | false =>
    have hE : rkeepB m ks id seq = false := by unfold rkeepB; rw [hh]; rfl
    have hE2 : rkeepK m ks id seq a = ks := by unfold rkeepK; rw [hE]; rfl
    rw [hE, hE2]
    have HK : Hid (∀ W, Below q0 w W → KAt W ((m : Int), ad, n', cap) m ks) := fun W hb => K.below (by rw [hq0]; exact hb)
    unfold rhas at hh
    rw [decide_eq_false_iff_not] at hh
    clear hb1 hb2 hb3 hn1 hn2 hn3 hwb hW3 K3 K hE hE2 HLT
    by_cases h1 : id < 1
    · clear hh
      go_enter Try.func22, Try.ntmps22
      go_wp2
      refine bodyPost_ret (rk_results rfl HF.out.1) rfl ?_
      have hB := HWB.out.trans HF.out.2.1
      exact ⟨_, _, _, rfl, HK.out _ hB, by first | exact hB | (rw [hq0]; exact hB), .inl rfl⟩
    · have h2 : (m : Int) < id := by omega
      clear hh
      go_enter Try.func22, Try.ntmps22
      go_wp2
      refine bodyPost_ret (rk_results rfl HF.out.1) rfl ?_
      have hB := HWB.out.trans HF.out.2.1
      exact ⟨_, _, _, rfl, HK.out _ hB, by first | exact hB | (rw [hq0]; exact hB), .inl rfl⟩
  | true =>
    have hE : rkeepB m ks id seq = decide ((latest ks id).2.1 < seq) := by unfold rkeepB; rw [hh]; rfl
    unfold rhas at hh
    rw [decide_eq_true_eq] at hh
    obtain ⟨hh1, hh2⟩ := hh
    have hh3 : ¬ id < 1 := by omega
    have hh4 : ¬ (m : Int) < id := by omega
    by_cases h1 : (latest ks id).2.1 < seq
    · have hE1 : rkeepB m ks id seq = true := hE.trans (decide_eq_true h1)
      have hE2 : rkeepK m ks id seq a = ks ++ [(id, seq, a)] := by unfold rkeepK; rw [hE1]; rfl
      rw [hE1, hE2]
      have h2 : ¬ seq ≤ (latest ks id).2.1 := by omega
      have HE3 : Hid (∀ w3, Below V3.heap.size V3 w3 → (w3.alloc (.cells #[] 62)).cell? ⟨q0, 1, none⟩ = some (.slice ad n' cap) ∧ Hid (KpW q0 ((m : Int), ad, n', cap) a (w3.alloc (.cells #[] 62)) ∧ GOwn 62 5 (q0 + 1 + 1 + 1) (w3.alloc (.cells #[] 62)) (.slice (some ⟨w3.heap.size, 0, none⟩) 0 0) [] ∧ GOwn 62 5 0 (w3.alloc (.cells #[] 62)) (.slice ad n' cap) (ks.map cellsK) ∧ q0 + 1 + 1 + 1 ≤ (w3.alloc (.cells #[] 62)).heap.size ∧ Below q0 w (w3.alloc (.cells #[] 62)))) := fun w3 hb => by
        have hb4 : Below w3.heap.size w3 (w3.alloc (.cells #[] 62)) := (Below.refl _ w3).alloc (Nat.le_refl _) _
        have hs3 := hb.size
        have hb34 : Below V3.heap.size V3 (w3.alloc (.cells #[] 62)) := hb.trans (hb4.mono hs3)
        have hW4 := hW3.below (show Below (q0 + 1 + 1 + 1) V3 _ by rw [← e3]; exact hb34)
        refine ⟨hW4.facts.2.1, hW4, ⟨by simp, by simpa using World.ownsRow_made w3 #[] 0 (by omega) (Nat.zero_le _) (by simp)⟩, K3.2.below hb34, by simp; omega, hwb.trans (hb34.mono (by omega))⟩
      have hlen : (ks.map cellsK).length = ks.length := List.length_map _
      clear hb1 hb2 hb3 hn1 hn2 hn3 hwb hW3 K3 K hE hE1 hE2 hst HF W h1
      generalize latest ks id = y at *
      unfold valK at HLT
      go_enter Try.func22, Try.ntmps22
      go_wp2_with (first
        | (go_at_call 23; go_loud (refine HLT.mono ?_; rintro e w3 ⟨rfl, hb3⟩; obtain ⟨c4, HW4⟩ := HE3.out w3 hb3; clear hb3 HE3 hla hld c0 c1 f1))
        | (at_builtin; refine append_all rtyK (by rfl) _ _ rfl (q0 + 1 + 1 + 1) _ _ [] (ks.map cellsK) rfl HW4.out.2.1 rfl HW4.out.2.2.1 (by rw [hlen]; simp; omega) HW4.out.2.2.2.1 ?_; intro v' w5 hG hgr; have hb5 := gBelow HW4.out.2.1 hgr HW4.out.2.2.2.1; have hW5 := HW4.out.1.below hb5; have hla := hW5.facts.2.2.2.2.1; have HW5 : Hid (KpW q0 ((m : Int), ad, n', cap) a w5 ∧ GOwn 62 5 (q0 + 1 + 1 + 1) w5 v' (ks.map cellsK) ∧ q0 + 1 + 1 + 1 ≤ w5.heap.size ∧ Below q0 w w5) := ⟨hW5, hG, Nat.le_trans HW4.out.2.2.2.1 hb5.size, HW4.out.2.2.2.2.trans (hb5.mono (by omega))⟩; obtain ⟨a7, n7, c7, hv7⟩ : ∃ a n c, v' = Value.slice a n c := (by obtain ⟨a, c, e, _⟩ := hG.shape; exact ⟨_, _, _, e⟩); subst hv7; unfold valA at hla; clear hG hgr hb5 hW5 HW4 c4)
        | (at_builtin; refine append_g rtyK (by rfl) _ _ (cellsK (id, seq, a)) _ rfl (q0 + 1 + 1 + 1) _ _ _ (ks.map cellsK) rfl HW5.out.2.1 rfl rfl (cellsK_ok _) (by rw [hlen]; omega) HW5.out.2.2.1 ?_; intro v' w6 hG hb6 _; have hW6 := HW5.out.1.below hb6; have hc6 := hW6.facts.2.1; have hf6 := hW6.facts.2.2.1; have HW6 : Hid (KpW q0 ((m : Int), ad, n', cap) a w6 ∧ GOwn 62 5 (q0 + 1 + 1 + 1) w6 v' (ks.map cellsK ++ [cellsK (id, seq, a)]) ∧ Below q0 w w6) := ⟨hW6, hG, HW5.out.2.2.2.trans (hb6.mono (by omega))⟩; obtain ⟨a8, n8, c8, hv8⟩ : ∃ a n c, v' = Value.slice a n c := (by obtain ⟨a, c, e, _⟩ := hG.shape; exact ⟨_, _, _, e⟩); subst hv8; obtain ⟨_, _, _, hld, _, W, hst, HF⟩ := (KpW.put (ad2 := a8) (n2 := n8) (cap2 := c8) hW6).facts; unfold valT at hld hst; unfold tvs at hc6; clear hG hb6 hW6 HW5 hla))
      refine bodyPost_ret (rk_results rfl HF.out.1) rfl ?_
      have hB : Below q0 w W := (Below.setCell HW6.out.2.2 (p := ⟨q0, 1, none⟩) (Nat.le_refl _) _).trans HF.out.2.1
      have hG : GOwn 62 5 (q0 + 1 + 1 + 1) W (.slice a8 n8 c8) ((ks ++ [(id, seq, a)]).map cellsK) := by
        rw [List.map_append]
        refine HW6.out.2.1.same fun g hg => ?_
        have hg2 := (HW6.out.2.1.block hg).1
        exact (HF.out.2.2.block g (by have := HW6.out.2.1.lt hg; simpa [World.setCell] using this) (by show ¬ g = q0 + 1 + 1; omega)).trans (Below.heap_setCell _ _ _ _ (by show g ≠ q0; omega))
      refine ⟨_, _, _, rfl, ⟨rfl, hG.mono (Nat.zero_le _)⟩, by first | exact hB | (rw [hq0]; exact hB), .inr fun g hg => ?_⟩
      have := (hG.block hg).1
      omega
    · have hE1 : rkeepB m ks id seq = false := hE.trans (decide_eq_false h1)
      have hE2 : rkeepK m ks id seq a = ks := by unfold rkeepK; rw [hE1]; rfl
      rw [hE1, hE2]
      have h2 : seq ≤ (latest ks id).2.1 := by omega
      have HK : Hid (∀ W, Below q0 w W → KAt W ((m : Int), ad, n', cap) m ks) := fun W hb => K.below (by rw [hq0]; exact hb)
      have HEND : Hid (∀ w3, Below V3.heap.size V3 w3 → loadT Try.prog (.pointer (some ⟨q0, 0, none⟩)) w3 = .ok (.agg #[.int .u64 m, .slice ad n' cap]) w3 ∧ ∃ W, storeT Try.prog (.pointer (some ⟨q0 + 1 + 1, 0, none⟩)) (.agg #[.int .u64 m, .slice ad n' cap]) w3 = .ok () W ∧ Hid (CAt W (q0 + 1 + 1) 0 (cellsT ((m : Int), ad, n', cap)) ∧ Below q0 w W)) := fun w3 hb => by
        obtain ⟨_, _, _, hld, _, W, hst, HF⟩ := (hW3.below (by rw [← e3]; exact hb)).facts
        exact ⟨hld, W, hst, HF.out.1, (hwb.trans (hb.mono (by omega))).trans HF.out.2.1⟩
      clear hb1 hb2 hb3 hn1 hn2 hn3 hwb hW3 K3 K hE hE1 hE2 hst HF W h1
      generalize latest ks id = y at *
      unfold valK at HLT
      go_enter Try.func22, Try.ntmps22
      go_wp2_with (go_at_call 23; refine HLT.mono ?_; rintro e w3 ⟨rfl, hb3⟩; obtain ⟨hld3, W, hst, HF⟩ := HEND.out w3 hb3; clear hb3 HEND)
      refine bodyPost_ret (rk_results rfl HF.out.1) rfl ?_
      exact ⟨_, _, _, rfl, HK.out _ HF.out.2, by first | exact HF.out.2 | (rw [hq0]; exact HF.out.2), .inl rfl⟩
end Se
end Go.Proofs.Ytoiikmfdoadkpaa
