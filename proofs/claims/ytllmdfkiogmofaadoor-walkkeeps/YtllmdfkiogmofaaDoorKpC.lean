/- Copies of arcs that may be written into; State. -/
import Derived.Test.YtllmdfkiogmofaaDoorWkSt
import Derived.Deep.MidRow
namespace Go.Proofs.YtllmdfkiogmofaaDoor
open Go.RowKit Go.Shelf Nums Fm Pk Pm
set_option maxRecDepth 1000000

/-- A row of n arcs that may be written into, in a block from B on. -/
def RowW (B : Nat) (w : World) (ad : Option Addr) (n : Nat) : Prop := 0 < n → ∃ g off, ad = some ⟨g, off, none⟩ ∧ B ≤ g ∧ g < w.heap.size ∧ w.there g off (n * 3)
theorem there_of {w w' : World} {g o n : Nat} (h : w.there g o n) (e : w'.heap[g]? = w.heap[g]?) : w'.there g o n := fun j hj => by
  obtain ⟨h1, h2⟩ := h j hj
  refine ⟨by rw [World.cell?_of_block (a := ⟨g, o + j, none⟩) e]; exact h1, ?_⟩
  simp only [World.frozen?, e] at h2 ⊢
  exact h2
theorem RowW.mono {B B' : Nat} {w : World} {ad : Option Addr} {n : Nat} (h : RowW B w ad n) (hB : B' ≤ B) : RowW B' w ad n := fun h0 => by
  obtain ⟨g, off, e, h1, h2⟩ := h h0
  exact ⟨g, off, e, by omega, h2⟩
theorem RowW.upd {F : Nat → Prop} {B : Nat} {w w' : World} {ad : Option Addr} {n : Nat} (h : RowW B w ad n) (hu : Upd F w w') (hF : ∀ g, B ≤ g → ¬ F g) : RowW B w' ad n := fun h0 => by
  obtain ⟨g, off, e, h1, h2, h3⟩ := h h0
  exact ⟨g, off, e, h1, Nat.lt_of_lt_of_le h2 hu.size, there_of h3 (hu.block g h2 (hF g h1))⟩
theorem GOwn.wr {T : TypeId} {B : Nat} {w : World} {v : Value} {xss : List (List Value)} (h : GOwn T 3 B w v xss) : ∃ ad cap, v = .slice ad xss.length cap ∧ RowW B w ad xss.length := by
  obtain ⟨h0, hl, ⟨e, hz⟩ | ⟨g, cap, cur, rfl, h1, hg, h2, h3, h4, h5⟩⟩ := h
  · exact ⟨none, 0, by rw [e, hz], fun hp => by omega⟩
  · refine ⟨_, cap, rfl, fun _ => ⟨g, 0, rfl, h1, (Array.getElem?_eq_some_iff.1 hg).1, fun j hj => ?_⟩⟩
    have hjs : j < cur.size := by
      rw [h4]
      have := Nat.mul_le_mul_right 3 h2
      omega
    constructor
    · simp only [World.cell?, hg, Nat.zero_add]
      simp [hjs]
    · simp only [World.frozen?, hg]
      simp
shelf_lay_g SlLaysE0.n41 Slgn 41 at Tryd 42 as cloneArW
/-- slices.Clone at arcs. -/
theorem cloneA_own (E : Nat) (w : World) (l : List RArc) (va : Value) (h : ArcsAt E w va l) (hm : l.length ≤ 1114112) :
    Calls Tryd.prog 42 #[va] w fun e w' => ∃ ad cap, e = .returned (.slice ad l.length cap) ∧ RowW w.heap.size w' ad l.length ∧ Below w.heap.size w w' := by
  by_cases h0 : l = []
  · subst h0
    obtain ⟨ad, cap, rfl⟩ := h.shape
    have hA : ∀ w' ad, RowW w.heap.size w' ad 0 := fun w' ad h => absurd h (by simp)
    clear h
    have HA : Hid (∀ w' ad, RowW w.heap.size w' ad 0) := hA
    have HB : Hid (∀ o, Below w.heap.size w (w.alloc o)) := fun o => (Below.refl _ w).alloc (Nat.le_refl _) o
    clear hA
    have heq : ∀ W, (binOp .eql 32 (.slice ad 0 cap) (.slice none 0 0)).run Tryd.prog W = .ok (.bool ad.isNone) W := fun W => Lib.run_eql_slice_nil W _ _ ad 0 cap 0 0 rtyA.und
    cases ad with
    | none =>
      go_enter Tryd.func42, Tryd.ntmps42
      simp only [Option.isNone_none] at heq
      go_wp2
      go_ret
      exact ⟨_, _, rfl, HA.out _ _, Below.refl _ _⟩
    | some p =>
      go_enter Tryd.func42, Tryd.ntmps42
      simp only [Option.isNone_some] at heq
      go_wp2
      go_ret
      exact ⟨_, _, rfl, HA.out _ _, HB.out _⟩
  · obtain ⟨z, hz, hzs⟩ := rtyA.inf
    obtain ⟨i, hi, hz0, hz1, hz2⟩ := info_parts hz
    have hsz : ∀ w, (Go.sizeOf 38).run Tryd.prog w = .ok 3 w := fun w => by simp [sizeOf, typeInfo, hi, hz1, Result.andThen]
    have hcl := arcs_cells l
    have hl3 : ∀ x ∈ l.map cellsRA, x.length = 3 := fun x hx => (hcl x hx).1
    have hpos := List.length_pos_iff.2 h0
    obtain ⟨ad, cap, rfl, hc⟩ := h.row.ex
    obtain ⟨g, off, rfl, hg, hx⟩ := hc (by rw [List.length_map]; exact hpos)
    have hcell : ∀ (j : Nat) u, (l.map cellsRA).flatten[j]? = some u → w.cell? ⟨g, off + j, none⟩ = some u := fun j u hj => by
      obtain ⟨i, c, x, rfl, h1, h2⟩ := flat_at (l.map cellsRA) hl3 j u hj
      have := hx i c x u h1 h2
      rwa [Nat.add_assoc] at this
    have hone : ∀ u ∈ (l.map cellsRA).flatten, u.oneCell' = true := fun u hu => by
      obtain ⟨x, hx, hux⟩ := List.mem_flatten.1 hu
      exact (hcl x hx).2 u hux
    have hlen : (l.map cellsRA).length = l.length := List.length_map _
    have hcall : Calls Tryd.prog 42 #[.slice (some ⟨g, off, none⟩) (l.map cellsRA).length cap] w fun e w' => ∃ v', e = .returned v' ∧ w'.ownsRow w.heap.size 38 3 v' (l.map cellsRA).length (l.map cellsRA).flatten ∧ v' ≠ .slice none 0 0 ∧ Below w.heap.size w w' :=
      AnyE.slices_Clone cloneArW i z 3 24 hi hz0 hz1 hz2 hzs (by decide) hsz g off (l.map cellsRA).length cap (l.map cellsRA).flatten w (flat_len3 _ hl3) (by unfold maxLen; omega) (by omega) hcell hone
    refine hcall.mono ?_
    rintro e w' ⟨v', rfl, ho, hne, hb⟩
    have hO : GOwn 38 3 w.heap.size w' v' (l.map cellsRA) := ⟨hcl, ho⟩
    obtain ⟨ad', cap', hv, hR⟩ := hO.wr
    rw [hlen] at hv hR
    subst hv
    exact ⟨ad', cap', rfl, hR, hb⟩
set_option maxHeartbeats 2000000 in
theorem cloned_own (E : Nat) (w : World) (s : RSt) (va : Value) (h : ArcsAt E w va s.arcs) (hE : E ≤ w.heap.size) (hm : s.arcs.length ≤ 1114112) :
    Calls Tryd.prog 21 #[.agg #[.bool s.final, .int .i64 s.out, va]] w fun e w' => ∃ ad cap, e = .returned (.agg #[.bool s.final, .int .i64 s.out, .slice ad s.arcs.length cap]) ∧ RowW w.heap.size w' ad s.arcs.length ∧ Below w.heap.size w w' := by
  obtain ⟨ad, cap, hva⟩ := h.shape
  obtain ⟨n, hn⟩ : ∃ n, s.arcs.length = n := ⟨_, rfl⟩
  rw [hn] at hva
  subst hva
  obtain ⟨W1, hW1⟩ : ∃ W1, W1 = (w.alloc (.cells #[.bool s.final, .int .i64 s.out, .slice ad n cap] 34)).alloc (.cells #[.bool false, .int .i64 0, .slice none 0 0] 34) := ⟨_, rfl⟩
  have hb1 : Below w.heap.size w W1 := by rw [hW1]; exact ((Below.refl _ w).alloc (Nat.le_refl _) _).alloc (by simp) _
  have hs1 : W1.heap.size = w.heap.size + 2 := by rw [hW1]; simp
  obtain ⟨sb, hsb⟩ : ∃ sb, sb = w.heap.size := ⟨_, rfl⟩
  obtain ⟨rb, hrb⟩ : ∃ rb, rb = w.heap.size + 1 := ⟨_, rfl⟩
  have hn1 : W1.heap[sb]? = some (.cells #[.bool s.final, .int .i64 s.out, .slice ad n cap] 34) := by
    rw [hW1, hsb, (MapKept.heap_alloc _ _).2 _ (by simp)]; exact alloc_newP _ _
  have hr1 : W1.heap[rb]? = some (.cells #[.bool false, .int .i64 0, .slice none 0 0] 34) := by
    have e : rb = (w.alloc (.cells #[.bool s.final, .int .i64 s.out, .slice ad n cap] 34)).heap.size := by rw [hrb]; simp
    rw [hW1, e]; exact alloc_newP _ _
  have HC : Hid (Calls Tryd.prog 42 #[.slice ad n cap] W1 fun e w' => ∃ ad cap, e = .returned (.slice ad s.arcs.length cap) ∧ RowW W1.heap.size w' ad s.arcs.length ∧ Below W1.heap.size W1 w') := cloneA_own E W1 s.arcs _ (h.below (hb1.mono hE)) hm
  have c2 : W1.cell? ⟨sb, 2, none⟩ = some (.slice ad n cap) := by simp [World.cell?, hn1]
  have HF : Hid (∀ (w2 : World) (x : Value), Below W1.heap.size W1 w2 → w2.heap[sb]? = some (.cells #[.bool s.final, .int .i64 s.out, .slice ad n cap] 34) ∧ w2.heap[rb]? = some (.cells #[.bool false, .int .i64 0, .slice none 0 0] 34)) := fun w2 x hb => ⟨(hb.block sb (by omega)).trans hn1, (hb.block rb (by omega)).trans hr1⟩
  have HB1 : Hid (Below w.heap.size w W1) := hb1
  have HSZ : Hid (W1.heap.size = w.heap.size + 2 ∧ sb = w.heap.size ∧ rb = w.heap.size + 1) := ⟨hs1, hsb, hrb⟩
  have hsr : sb ≠ rb := by omega
  clear h hb1 hn1 hr1 hs1
  go_enter Tryd.func21, Tryd.ntmps21
  go_upto_region 1 with fail
  rw [← hrb, ← hsb, ← hW1]
  clear hsb hrb hW1
  go_wp2_with (go_at_call 42; refine HC.out.mono ?_; rintro e w2 ⟨ad2, cap2, rfl, hA2, hb2⟩; obtain ⟨k1, k2⟩ := HF.out w2 (.slice none 0 0) hb2; have z1 : w2.cell? ⟨sb, 0, none⟩ = some (.bool s.final) := (by simp [World.cell?, k1]); have z2 : w2.cell? ⟨sb, 1, none⟩ = some (.int .i64 s.out) := (by simp [World.cell?, k1]); have z3 : w2.cell? ⟨sb, 2, none⟩ = some (.slice ad n cap) := (by simp [World.cell?, k1]); have y1 : w2.cell? ⟨rb, 0, none⟩ = some (.bool false) := (by simp [World.cell?, k2]); have y2 : w2.cell? ⟨rb, 1, none⟩ = some (.int .i64 0) := (by simp [World.cell?, k2]); have y3 : w2.cell? ⟨rb, 2, none⟩ = some (.slice none 0 0) := (by simp [World.cell?, k2]); have f1 : w2.frozen? ⟨sb, 2, none⟩ = false := (by simp [World.frozen?, k1]); have f2 : ∀ o, w2.frozen? ⟨rb, o, none⟩ = false := (fun o => by simp [World.frozen?, k2]))
  obtain ⟨W6, hW6⟩ : ∃ W6, W6 = (((w2.setCell ⟨sb, 2, none⟩ (.slice ad2 n cap2)).setCell ⟨rb, 0, none⟩ (.bool s.final)).setCell ⟨rb, 1, none⟩ (.int .i64 s.out)).setCell ⟨rb, 2, none⟩ (.slice ad2 n cap2) := ⟨_, rfl⟩
  have hu : Upd (fun j => j = sb ∨ j = rb) w2 W6 := by
    rw [hW6]
    exact set_trans (set_trans (set_trans (set_trans (Upd.refl _ _) _ (.inl rfl)) _ (.inr rfl)) _ (.inr rfl)) _ (.inr rfl)
  have hr6 : W6.heap[rb]? = some (.cells #[.bool s.final, .int .i64 s.out, .slice ad2 n cap2] 34) := by
    have e0 : (w2.setCell ⟨sb, 2, none⟩ (.slice ad2 n cap2)).heap[rb]? = some (.cells #[.bool false, .int .i64 0, .slice none 0 0] 34) := (Below.heap_setCell w2 ⟨sb, 2, none⟩ _ rb (fun e => hsr e.symm)).trans k2
    rw [hW6, set_at (set_at (set_at e0 _) _) _]
    rfl
  rw [← hW6]
  obtain ⟨hz1, hz2, hz3⟩ := HSZ.out
  refine bodyPost_ret (cl_results (a := .bool s.final) (b := .int .i64 s.out) (c := .slice ad2 n cap2) rfl (by simp [World.cell?, hr6]) (by simp [World.cell?, hr6]) (by simp [World.cell?, hr6])) rfl ?_
  refine ⟨_, _, by rw [hn], ?_, ?_⟩
  · rw [hn] at hA2 ⊢
    exact (hA2.upd hu (fun g hg e => by rcases e with e | e <;> omega)).mono (by omega)
  · have h1 : Below w.heap.size w w2 := HB1.out.trans (hb2.mono HB1.out.size)
    exact h1.trans (hu.below h1.size (fun j e => by rcases e with e | e <;> omega))
set_option maxHeartbeats 2000000 in
theorem State_own (w : World) (wb : Nat) (l : List Pr) (h : WkOn w wb l) (k : Nat) (t : St) (ht : (machOf l).2[k]? = some t) :
    Calls Tryd.prog 8 #[.pointer (some ⟨wb, 0, none⟩), .int .i64 (k : Int)] w fun e w' => ∃ ad cap, e = .returned (.tuple #[.agg #[.bool t.final, .int .i64 t.out, .slice ad t.arcs.length cap], .bool true]) ∧ RowW w.heap.size w' ad t.arcs.length ∧ Below w.heap.size w w' := by
  obtain ⟨qb, hqb⟩ : ∃ qb, qb = w.heap.size := ⟨_, rfl⟩
  obtain ⟨W1, hW1⟩ : ∃ W1, W1 = w.alloc (.cells #[.bool false, .int .i64 0, .slice none 0 0] 34) := ⟨_, rfl⟩
  have HQB : Hid (QB w qb W1) := by show QB _ _ _; rw [hW1]; exact QB.start w hqb
  obtain ⟨D, _, _, hWk⟩ := h.at'
  obtain ⟨sd, sc, wd, wc, q0, q1, q2, hSt, _⟩ := hWk.facts
  obtain ⟨n, hn⟩ : ∃ n, (machOf l).2.length = n := ⟨_, rfl⟩
  have hlm : ((machOf l).2.map ofSt).length = n := by rw [List.length_map, hn]
  rw [hlm] at q1 hSt
  have hkn := (List.getElem?_eq_some_iff.1 ht).1
  rw [hn] at hkn
  obtain ⟨g, off, va, hgd, hg, x0, x1, x2, hA⟩ := hSt.at (k := k) (s := ofSt t) (by rw [List.getElem?_map, ht]; rfl)
  obtain ⟨ta, tc, hva⟩ := hA.shape
  obtain ⟨na, hna⟩ : ∃ na, t.arcs.length = na := ⟨_, rfl⟩
  have hna2 : (ofSt t).arcs.length = na := by show (t.arcs.map ofArc).length = na; rw [List.length_map, hna]
  rw [hna2] at hva
  subst hva
  subst hgd
  have hb1 := HQB.out.bel
  have hlen := hSt.len
  rw [hlm] at hlen
  have u1 : W1.cell? ⟨wb, 1, none⟩ = some (.slice (some ⟨g, off, none⟩) n sc) := (hb1.cell (p := ⟨wb, 1, none⟩) hWk.lt).trans q1
  have y0 : W1.cell? ⟨g, off + k * 3, none⟩ = some (.bool t.final) := (hb1.cell (p := ⟨g, off + k * 3, none⟩) hg).trans x0
  have y1 : W1.cell? ⟨g, off + k * 3 + 1, none⟩ = some (.int .i64 t.out) := (hb1.cell (p := ⟨g, off + k * 3 + 1, none⟩) hg).trans x1
  have y2 : W1.cell? ⟨g, off + k * 3 + 2, none⟩ = some (.slice ta na tc) := (hb1.cell (p := ⟨g, off + k * 3 + 2, none⟩) hg).trans x2
  have HCL : Hid (Calls Tryd.prog 21 #[.agg #[.bool t.final, .int .i64 t.out, .slice ta na tc]] W1 fun e w' => ∃ ad cap, e = .returned (.agg #[.bool t.final, .int .i64 t.out, .slice ad na cap]) ∧ RowW W1.heap.size w' ad na ∧ Below W1.heap.size W1 w') := by
    refine (cloned_own w.heap.size W1 (ofSt t) _ (hA.below hb1) hb1.size (arcs_few h.ok ht)).mono ?_
    rintro e w' ⟨ad, cap, rfl, h1, h3⟩
    rw [hna2] at h1 ⊢
    exact ⟨ad, cap, rfl, h1, h3⟩
  have hkz : (k : Int) < (n : Int) := by omega
  have hkz2 : ¬ (n : Int) ≤ (k : Int) := by omega
  rw [hna]
  clear h hWk q0 q1 q2 hSt hn hlm ht hA hna hna2 hb1 x0 x1 x2 hg
  go_enter Tryd.func8, Tryd.ntmps8
  go_upto_region 1 with fail
  rw [← hqb, ← hW1]
  clear hqb hW1
  go_wp2_with (go_at_call 21; refine HCL.out.mono ?_; rintro e w2 ⟨ad2, cap2, rfl, hA2, hb2⟩; have HA2 : Hid (RowW W1.heap.size w2 ad2 na) := hA2; have HQ2 : Hid (QB w qb w2) := HQB.out.below hb2; obtain ⟨z0, z1, z2, f0, f1, f2⟩ := HQ2.out.facts; clear hA2 hb2)
  obtain ⟨e1, e2⟩ := HQ2.out.set t.final t.out (.slice ad2 na cap2)
  generalize (((w2.setCell ⟨qb, 0, none⟩ (.bool t.final)).setCell ⟨qb, 1, none⟩ (.int .i64 t.out)).setCell ⟨qb, 2, none⟩ (.slice ad2 na cap2)) = W9 at e1 e2 ⊢
  refine bodyPost_ret (st_results (a := .bool t.final) (b := .int .i64 t.out) (c := .slice ad2 na cap2) (d := .bool true) rfl rfl (by simp [World.cell?, e1]) (by simp [World.cell?, e1]) (by simp [World.cell?, e1])) rfl ?_
  have hql := HQB.out.lo
  have hqs := (Array.getElem?_eq_some_iff.1 HQB.out.blk).1
  exact ⟨ad2, cap2, rfl, (HA2.out.upd e2 (fun g hg e => by omega)).mono HQB.out.bel.size, HQ2.out.bel.trans (e2.below HQ2.out.bel.size (fun k e => by omega))⟩
end Go.Proofs.YtllmdfkiogmofaaDoor
