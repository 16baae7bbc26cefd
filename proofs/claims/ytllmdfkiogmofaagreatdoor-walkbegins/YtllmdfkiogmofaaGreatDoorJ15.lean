/- Texts that were written apart, joined. -/
import Derived.Test.YtllmdfkiogmofaaGreatDoorWkV
import Derived.Laws.EntriesVeiled
import Derived.Shelf.Abstract
import Derived.Test.YtllmdfkiogmofaaGreatDoorWkB
/- from: the pairs from a number on. -/
namespace Go.Proofs.YtllmdfkiogmofaaGreatDoor
open Go.RowKit Nums Fm Pk
set_option maxRecDepth 100000

set_option maxHeartbeats 1000000 in
theorem from_any (wb : Nat) (i : Int) (w : World) :
    Calls Tryz.prog 38 #[.pointer (some ⟨wb, 0, none⟩), .int .i64 i] w fun e w' => e = .returned (.func (.func 69) #[] #[.pointer (some ⟨w.heap.size, 0, none⟩), .pointer (some ⟨w.heap.size + 1, 0, none⟩)]) ∧ ∃ t1 t2, w' = (w.alloc (.cells #[.pointer (some ⟨wb, 0, none⟩)] t1)).alloc (.cells #[.int .i64 i] t2) := by
  go_enter Tryz.func38, Tryz.ntmps38
  go_wp2
  go_ret
  exact ⟨rfl, _, _, rfl⟩
/-- A walk on the dictionary l, in w0. -/
structure WkOn (w0 : World) (wb : Nat) (l : List Pr) : Prop where
  ok : buildE l = 0
  tabs : Tabs w0
  at' : ∃ D, (l ≠ [] → MW l (machOf l).1 (machOf l).2 D) ∧ Inv D (machOf l).2 ∧ WkAt w0.heap.size w0 wb (machOf l).1 ((machOf l).2.map ofSt) (D.map List.length)
theorem WkOn.below {w0 w1 : World} {wb : Nat} {l : List Pr} (h : WkOn w0 wb l) (hb : Below w0.heap.size w0 w1) : WkOn w1 wb l := by
  obtain ⟨D, h1, h2, h3⟩ := h.at'
  refine ⟨h.ok, h.tabs.below hb, D, h1, h2, ?_⟩
  have h4 := h3.below hb
  obtain ⟨vs, vw, k1, k2, k3⟩ := h4.ex
  obtain ⟨xss, g1, g2, g3⟩ := k2.ex
  exact ⟨Nat.lt_of_lt_of_le h4.lt hb.size, vs, vw, k1, ⟨⟨xss, g1.mono hb.size, g2, fun i s hi => by obtain ⟨va, e1, e2⟩ := g3 i s hi; exact ⟨va, e1, ⟨e2.row.mono hb.size, e2.ok, e2.len⟩⟩⟩, k2.ok, k2.len⟩, k3.mono hb.size⟩
/-- What from's function looks at. -/
structure FS (w0 : World) (wb cw ci k : Nat) (A : Nat → Prop) (W : World) : Prop where
  bel : Below w0.heap.size w0 W
  loA : ∀ j, A j → w0.heap.size ≤ j
  xw : W.cell? ⟨cw, 0, none⟩ = some (.pointer (some ⟨wb, 0, none⟩))
  xi : W.cell? ⟨ci, 0, none⟩ = some (.int .i64 (k : Int))
  na : ¬ A cw
/-- What region 2 looks at. -/
structure S2f (cw wb : Nat) (base : Int) (W : World) : Prop where
  c0 : W.cell? ⟨cw, 0, none⟩ = some (.pointer (some ⟨wb, 0, none⟩))
  c1 : W.cell? ⟨wb, 0, none⟩ = some (.int .i64 base)
theorem S2f.facts {cw wb : Nat} {base : Int} {W : World} (h : S2f cw wb base W) : W.cell? ⟨cw, 0, none⟩ = some (.pointer (some ⟨wb, 0, none⟩)) ∧ W.cell? ⟨wb, 0, none⟩ = some (.int .i64 base) := ⟨h.1, h.2⟩
theorem mach_nil {l : List Pr} (h : buildE l = 0) : l = [] ∨ (l ≠ [] ∧ ∃ n, (machOf l).2.length = n + 1) := by
  by_cases hl : l = []
  · exact .inl hl
  · obtain ⟨D, M⟩ := mach_walk h hl
    exact .inr ⟨hl, (machOf l).2.length - 1, by have := List.length_pos_iff.2 M.ne; omega⟩
set_option maxHeartbeats 4000000 in
theorem from_seq (w0 : World) (wb : Nat) (l : List Pr) (h : WkOn w0 wb l) (cw ci k : Nat) (hk : k ≤ 9223372036854775807) :
    SeqIs (FS w0 wb cw ci k) 69 #[.pointer (some ⟨cw, 0, none⟩), .pointer (some ⟨ci, 0, none⟩)] (l.drop k) := by
  intro yv I X A W hfn hS hMI hMX hY h0 hL
  obtain ⟨fn, cb, rfl⟩ := hfn
  obtain ⟨yv, hyv⟩ : ∃ yv, yv = Value.func fn #[] cb := ⟨_, rfl⟩
  rw [← hyv] at hY ⊢
  show Calls Tryz.prog 69 #[yv, .pointer (some ⟨cw, 0, none⟩), .pointer (some ⟨ci, 0, none⟩)] W _
  obtain ⟨D, hMW, hInv, hWk⟩ := h.at'
  have HRT : Hid (∀ W', Below w0.heap.size w0 W' → Calls Tryz.prog 36 #[.pointer (some ⟨wb, 0, none⟩)] W' fun e w' => e = .returned (.int .i64 ((((machOf l).2.map ofSt).length : Int) - 1)) ∧ w' = W') := fun W' hW => Root_any _ W' wb _ _ _ (hWk.below hW)
  obtain ⟨r1, r2, r3, r4, r5⟩ := hS
  rcases mach_nil h.ok with hl | ⟨hl, n, hn⟩
  · subst hl
    have HB : Hid (Below w0.heap.size w0 W) := r1
    have HFIN : Hid ((∃ A', Ext A A' W ∧ Lies A' W ∧ Upd A W W ∧ I A' (([] : List Pr).drop k) W)) := ⟨A, Ext.refl _ _, hL, Upd.refl _ _, by rw [List.drop_nil]; exact h0⟩
    clear hMI hMX hY h0 hL r1 r2 hWk hMW hInv h
    go_enter Tryz.func69, Tryz.ntmps69
    go_wp2_with (go_at_call 36; refine (HRT.out _ HB.out).mono ?_; rintro e w1 ⟨rfl, hw1⟩; rw [hw1]; clear hw1)
    first | go_end0 | go_returns
    exact ⟨⟨_, rfl⟩, .inl HFIN.out⟩
  · have hM := hMW hl
    have hnl : ((machOf l).2.map ofSt).length = n + 1 := by rw [List.length_map, hn]
    rw [hnl] at HRT
    have hkz : ((n + 1 : Nat) : Int) - 1 = (n : Int) := by omega
    rw [hkz] at HRT
    obtain ⟨sd, sc, wd, wc, q0, q1, q2, hSt, _⟩ := hWk.facts
    have hsl := hSt.len
    rw [hnl] at hsl
    have hn63 : n ≤ 9223372036854775807 := by omega
    obtain ⟨tb, htb⟩ : ∃ tb, tb = W.heap.size := ⟨_, rfl⟩
    obtain ⟨base, hbase⟩ : ∃ base, (machOf l).1 = base := ⟨_, rfl⟩
    rw [hbase] at hM hWk q0
    obtain ⟨W1, hW1⟩ : ∃ W1, W1 = W.alloc (.cells #[.pointer (some ⟨wb, 0, none⟩), .int .i64 (k : Int), .slice none 0 0, yv] 125) := ⟨_, rfl⟩
    have hb1 : Below W.heap.size W W1 := by rw [hW1]; exact (Below.refl _ W).alloc (Nat.le_refl _) _
    have hbd : Below W.heap.size W W1.drew := hb1.drew
    have hn1 : W1.drew.heap[tb]? = some (.cells #[.pointer (some ⟨wb, 0, none⟩), .int .i64 (k : Int), .slice none 0 0, yv] 125) := by rw [hW1, htb]; exact alloc_newP _ _
    have hvs : VS w0 W.heap.size tb wb yv I A [] W1.drew k (.slice none 0 0) [] :=
      ⟨r1.trans (hbd.mono r1.size), ⟨by omega, hn1, GOwn.nil _ _ _ _⟩, fun ha => by have := hL tb ha; omega, fun g hg => (by cases hg), fun j hj => Nat.lt_of_lt_of_le (hL j hj) hbd.size, r2, hMI _ _ _ _ h0 (Upd.of_below hbd)⟩
    have hvisit := tourVisit_any w0 W.heap.size wb base (machOf l).2 D hM.inv hM.rst hWk h.tabs r1.size tb yv I X hMI hY (n + 1) n (by omega) A [] W1.drew k (.slice none 0 0) [] base (level (ents l)) (by have := hM.root; rw [hn] at this; exact this) hM.tells hvs hk
    have htw : tw [] base (level (ents l)) = l := by rw [tw, hM.top, prs_entsW (dict_ok h.ok).wd]
    rw [htw] at hvisit
    have HRW : Hid (Below w0.heap.size w0 W) := r1
    have HRD : Hid (Below w0.heap.size w0 W1.drew) := r1.trans (hbd.mono r1.size)
    have hS2 : S2f cw wb base W1.drew := ⟨(hbd.cell (p := ⟨cw, 0, none⟩) (World.block_lt_of_cell? _ _ r3)).trans r3, (HRD.out.cell (p := ⟨wb, 0, none⟩) hWk.lt).trans q0⟩
    have hcwl : cw < W.heap.size := World.block_lt_of_cell? _ _ r3
    have hcwn : ¬ (A cw ∨ cw = tb ∨ (Value.slice none 0 0).ownBlock = some cw) := by
      rintro (g | g | g)
      · exact r5 g
      · omega
      · cases g
    have HVI : Hid (Calls Tryz.prog 70 #[.pointer (some ⟨tb, 0, none⟩), .int .i64 (n : Int), .int .i64 base] W1.drew fun e W' => ∃ bb, e = .returned (.bool bb) ∧ S2f cw wb base W' ∧ ((∃ A', Ext A A' W ∧ Lies A' W' ∧ Upd A W W' ∧ I A' (l.drop k) W') ∨ ∃ q A', q <+: l.drop k ∧ Ext A A' W ∧ Lies A' W' ∧ Upd A W W' ∧ X A' q W')) := by
      refine hvisit.mono ?_
      have key : ∀ W', Upd (fun j => A j ∨ j = tb ∨ (Value.slice none 0 0).ownBlock = some j) W1.drew W' → Upd A W W' ∧ S2f cw wb base W' := fun W' h2 => by
        have hbw : Below w0.heap.size w0 W' := HRD.out.trans (h2.below HRD.out.size (fun j g => by
          rcases g with g | g | g
          · exact r2 j g
          · have := r1.size; omega
          · cases g))
        refine ⟨(Upd.of_below hbd).trans h2 (fun j hj g => ?_), (World.cell?_of_block (a := ⟨cw, 0, none⟩) (h2.block cw (Nat.lt_of_lt_of_le hcwl hbd.size) hcwn)).trans hS2.1, (hbw.cell (p := ⟨wb, 0, none⟩) hWk.lt).trans q0⟩
        rcases g with g | g | g
        · exact g
        · omega
        · cases g
      rintro e W' (⟨rfl, A', pv', h1, h2, h3, h4⟩ | ⟨rfl, q, A', h0', h1, h2l, h2, h3⟩)
      · obtain ⟨k1, k2⟩ := key W' h2
        exact ⟨_, rfl, k2, .inl ⟨A', ⟨h1.1, fun j hj => (h1.2 j hj).imp id (fun g => Nat.le_trans hbd.size g)⟩, h3.lies, k1, by simpa using h3.inv⟩⟩
      · obtain ⟨k1, k2⟩ := key W' h2
        exact ⟨_, rfl, k2, .inr ⟨q, A', h0', ⟨h1.1, fun j hj => (h1.2 j hj).imp id (fun g => Nat.le_trans hbd.size g)⟩, h2l, k1, by simpa using h3⟩⟩
    subst hyv
    clear hMI hMX hY h0 hL r1 r2 r5 hcwl hcwn hWk hMW hInv h hvs hvisit htw hM hSt q0 q1 q2 hb1 hbd hn1 hl hsl hbase hnl
    go_enter Tryz.func69, Tryz.ntmps69
    go_upto_region 2 with (go_at_call 36; refine (HRT.out _ HRW.out).mono ?_; rintro e w1 ⟨rfl, hw1⟩; rw [hw1]; clear hw1)
    rw [← hW1, ← htb]
    clear hW1 htb
    refine region_at (S := S2f cw wb base) 8 rfl mixedP hS2 (fun _ => ?_)
    refine take_at (i := 0) 12 rfl rfl (by kernel_rfl) (by kernel_rfl) (by kernel_rfl) (fun _ _ _ h => h) (by rfl) (fun w hSw => by (have hSw2 := S2f.facts hSw; clear hSw; go_simp; first | done | exact rfl)) (by assumption) ?_
    simp only [List.setIfInBounds_toArray, List.set_cons_zero, List.set_cons_succ]
    refine take_at (i := 2) 14 rfl rfl (by kernel_rfl) (by kernel_rfl) (by kernel_rfl) (fun _ _ _ h => h) (by rfl) (fun w hSw => by (have hSw2 := S2f.facts hSw; clear hSw; go_simp; first | done | exact rfl)) (by assumption) ?_
    simp only [List.setIfInBounds_toArray, List.set_cons_zero, List.set_cons_succ]
    refine take_at (i := 3) 15 rfl rfl (by kernel_rfl) (by kernel_rfl) (by kernel_rfl) (fun _ _ _ h => h) (by rfl) (fun w hSw => by (have hSw2 := S2f.facts hSw; clear hSw; go_simp; first | done | exact rfl)) (by assumption) ?_
    simp only [List.setIfInBounds_toArray, List.set_cons_zero, List.set_cons_succ]
    refine take_at (i := 4) 16 rfl rfl (by kernel_rfl) (by kernel_rfl) (by kernel_rfl) (fun _ _ _ h => h) (by rfl) (fun w hSw => by (have hSw2 := S2f.facts hSw; clear hSw; go_simp; first | done | exact rfl)) (by assumption) ?_
    simp only [List.setIfInBounds_toArray, List.set_cons_zero, List.set_cons_succ]
    refine take_at (i := 5) 17 rfl rfl (by kernel_rfl) (by kernel_rfl) (by kernel_rfl) (fun _ _ _ h => h) (by rfl) (fun w hSw => by (have hSw2 := S2f.facts hSw; clear hSw; go_simp; first | done | exact rfl)) (by assumption) ?_
    simp only [List.setIfInBounds_toArray, List.set_cons_zero, List.set_cons_succ]
    refine take_at (i := 6) 18 rfl rfl (by kernel_rfl) (by kernel_rfl) (by kernel_rfl) (fun _ _ _ h => h) (by rfl) (fun w hSw => by (have hSw2 := S2f.facts hSw; clear hSw; go_simp; first | done | exact rfl)) (by assumption) ?_
    simp only [List.setIfInBounds_toArray, List.set_cons_zero, List.set_cons_succ]
    refine one_call (i := 1) (w0 := W1.drew) 13 36 #[.pointer (some ⟨wb, 0, none⟩)] (by kernel_rfl) rfl rfl (by rfl) (by kernel_rfl) ?_
    refine (HRT.out _ HRD.out).mono ?_
    rintro e w1 ⟨rfl, hw1⟩
    rw [hw1]
    clear hw1
    refine ⟨_, rfl, hS2, fun _ => ?_⟩
    simp only [List.setIfInBounds_toArray, List.set_cons_zero, List.set_cons_succ]
    refine one_call (i := 7) (w0 := W1.drew) 19 70 #[.pointer (some ⟨tb, 0, none⟩), .int .i64 (n : Int), .int .i64 base] (by kernel_rfl) rfl rfl (by rfl) (by kernel_rfl) ?_
    refine HVI.out.mono ?_
    rintro e W' ⟨bb, rfl, hs2, hpost⟩
    refine ⟨_, rfl, hs2, fun _ => ?_⟩
    simp only [List.setIfInBounds_toArray, List.set_cons_zero, List.set_cons_succ]
    refine wpAnyH_done (by kernel_rfl) ?_ _
    go_end0
    exact ⟨⟨_, rfl⟩, hpost⟩
end Go.Proofs.YtllmdfkiogmofaaGreatDoor

/- At: the pair of a number. -/
namespace Go.Proofs.YtllmdfkiogmofaaGreatDoor
open Go.RowKit Go.Shelf Nums Fm Pk
set_option maxRecDepth 100000
attribute [local go_sem] Oper.semAt_some

def zP : Pr := (⟨#[]⟩, 0)
/-- The pair number i, if there is one. -/
def atP (l : List Pr) (i : Int) : Option Pr := if 0 ≤ i then l[i.toNat]? else none
theorem at_results {tmps : Array Value} {w : World} {rp ro : Nat} {a b c : Value} (h2 : tmps.getD 4 undef = .pointer (some ⟨rp, 0, none⟩)) (h3 : tmps.getD 5 undef = .pointer (some ⟨ro, 0, none⟩)) (c0 : w.cell? ⟨rp, 0, none⟩ = some a) (c1 : w.cell? ⟨rp, 1, none⟩ = some b) (c2 : w.cell? ⟨ro, 0, none⟩ = some c) : (results Tryz.f62 tmps).run Tryz.prog w = .ok (.tuple #[.agg #[a, b], c]) w := by
  have h2' : tmps[4]?.getD undef = .pointer (some ⟨rp, 0, none⟩) := by simpa using h2
  have h3' : tmps[5]?.getD undef = .pointer (some ⟨ro, 0, none⟩) := by simpa using h3
  simp [results, Tryz.results62, go_sem, h2', h3', c0, c1, c2]
/-- The boxes of the results. -/
structure RBx (w : World) (rp ro : Nat) (x : Pr) (ok : Bool) (W : World) : Prop where
  bel : Below w.heap.size w W
  lo : w.heap.size ≤ rp ∧ w.heap.size ≤ ro ∧ rp ≠ ro
  bp : W.heap[rp]? = some (.cells #[.string x.1, .int .i64 x.2] 47)
  bo : W.heap[ro]? = some (.cells #[.bool ok] 4)
theorem RBx.facts {w : World} {rp ro : Nat} {x : Pr} {ok : Bool} {W : World} (h : RBx w rp ro x ok W) : W.cell? ⟨rp, 0, none⟩ = some (.string x.1) ∧ W.cell? ⟨rp, 1, none⟩ = some (.int .i64 x.2) ∧ W.cell? ⟨ro, 0, none⟩ = some (.bool ok) ∧ W.frozen? ⟨rp, 0, none⟩ = false ∧ W.frozen? ⟨rp, 1, none⟩ = false ∧ W.frozen? ⟨ro, 0, none⟩ = false :=
  ⟨by simp [World.cell?, h.bp], by simp [World.cell?, h.bp], by simp [World.cell?, h.bo], by simp [World.frozen?, h.bp], by simp [World.frozen?, h.bp], by simp [World.frozen?, h.bo]⟩
theorem RBx.upd {F : Nat → Prop} {w : World} {rp ro : Nat} {x : Pr} {ok : Bool} {W W' : World} (h : RBx w rp ro x ok W) (hu : Upd F W W') (hp : ¬ F rp) (ho : ¬ F ro) (hF : ∀ k, F k → w.heap.size ≤ k) : RBx w rp ro x ok W' :=
  ⟨h.bel.trans (hu.below h.bel.size hF), h.lo, (hu.block rp (Array.getElem?_eq_some_iff.1 h.bp).1 hp).trans h.bp, (hu.block ro (Array.getElem?_eq_some_iff.1 h.bo).1 ho).trans h.bo⟩
/-- Both are stored. -/
theorem RBx.set {w : World} {rp ro : Nat} {x y : Pr} {ok ok' : Bool} {W : World} (h : RBx w rp ro x ok W) : RBx w rp ro y ok' (((W.setCell ⟨rp, 0, none⟩ (.string y.1)).setCell ⟨rp, 1, none⟩ (.int .i64 y.2)).setCell ⟨ro, 0, none⟩ (.bool ok')) ∧ Upd (fun k => k = rp ∨ k = ro) W (((W.setCell ⟨rp, 0, none⟩ (.string y.1)).setCell ⟨rp, 1, none⟩ (.int .i64 y.2)).setCell ⟨ro, 0, none⟩ (.bool ok')) := by
  have hu : Upd (fun k => k = rp ∨ k = ro) W (((W.setCell ⟨rp, 0, none⟩ (.string y.1)).setCell ⟨rp, 1, none⟩ (.int .i64 y.2)).setCell ⟨ro, 0, none⟩ (.bool ok')) :=
    (((set_updW W rp 0 _).mono (G := fun k => k = rp ∨ k = ro) fun k e => .inl e).trans ((set_updW _ rp 1 _).mono (G := fun k => k = rp ∨ k = ro) fun k e => .inl e) (fun _ _ g => g)).trans ((set_updW _ ro 0 _).mono (G := fun k => k = rp ∨ k = ro) fun k e => .inr e) (fun _ _ g => g)
  obtain ⟨l1, l2, l3⟩ := h.lo
  refine ⟨⟨h.bel.trans (hu.below h.bel.size (fun k e => by rcases e with e | e <;> omega)), h.lo, ?_, ?_⟩, hu⟩
  · rw [Below.heap_setCell _ ⟨ro, 0, none⟩ _ rp l3, set_at (set_at h.bp _) _]
    rfl
  · have e1 := (Below.heap_setCell (W.setCell ⟨rp, 0, none⟩ (.string y.1)) ⟨rp, 1, none⟩ (.int .i64 y.2) ro (fun e => l3 e.symm)).trans ((Below.heap_setCell W ⟨rp, 0, none⟩ (.string y.1) ro (fun e => l3 e.symm)).trans h.bo)
    rw [set_at e1]
    rfl
theorem at_neg (w : World) (wb : Nat) (i : Int) (hi : i < 0) :
    Calls Tryz.prog 62 #[.pointer (some ⟨wb, 0, none⟩), .int .i64 i] w fun e w' => e = .returned (.tuple #[pairV zP, .bool false]) ∧ Below w.heap.size w w' := by
  obtain ⟨rp, hrp⟩ : ∃ rp, rp = w.heap.size := ⟨_, rfl⟩
  obtain ⟨ro, hro⟩ : ∃ ro, ro = w.heap.size + 1 := ⟨_, rfl⟩
  obtain ⟨W0, hW0⟩ : ∃ W0, W0 = (w.alloc (.cells #[.string ⟨#[]⟩, .int .i64 0] 47)).alloc (.cells #[.bool false] 4) := ⟨_, rfl⟩
  have hR0 : RBx w rp ro zP false W0 := by
    refine ⟨?_, ⟨by omega, by omega, by omega⟩, ?_, ?_⟩
    · rw [hW0]; exact ((Below.refl _ w).alloc (Nat.le_refl _) _).alloc (by simp) _
    · rw [hW0, hrp, (MapKept.heap_alloc _ _).2 _ (by simp)]; exact alloc_newP _ _
    · have e : ro = (w.alloc (.cells #[.string ⟨#[]⟩, .int .i64 0] 47)).heap.size := by rw [hro]; simp
      rw [hW0, e]; exact alloc_newP _ _
  obtain ⟨y0, y1, z2, f0, f1, f2⟩ := hR0.facts
  have z0 : W0.cell? ⟨rp, 0, none⟩ = some (.string ⟨#[]⟩) := y0
  have z1 : W0.cell? ⟨rp, 1, none⟩ = some (.int .i64 0) := y1
  clear y0 y1
  have HSET : Hid (RBx w rp ro zP false (((W0.setCell ⟨rp, 0, none⟩ (.string ⟨#[]⟩)).setCell ⟨rp, 1, none⟩ (.int .i64 0)).setCell ⟨ro, 0, none⟩ (.bool false))) := (hR0.set (y := zP) (ok' := false)).1
  have hne : rp ≠ ro := by omega
  clear hR0
  refine (callsIn_wide (n := 0)).1 (callsIn_of_wp_marks Tryz.func62 rfl trivial ?_ rfl)
  refine wpIn_wide.2 ?_
  simp only [Tryz.ntmps62, List.size_toArray, List.length_cons, List.length_nil, Nat.reduceAdd, Nat.reduceSub, Array.replicate_succ, Array.replicate_zero, List.push_toArray, List.append_toArray, List.nil_append, List.cons_append]
  go_upto_region 1 with fail
  rw [← hro, ← hrp, ← hW0]
  clear hro hrp hW0
  go_wp2
  obtain ⟨q0, q1, q2, _⟩ := HSET.out.facts
  exact ⟨_, at_results rfl rfl q0 q1 q2, rfl, HSET.out.bel⟩
theorem S2f.upd {F : Nat → Prop} {cw wb : Nat} {base : Int} {W W' : World} (h : S2f cw wb base W) (hu : Upd F W W') (h1 : ¬ F cw) (h2 : ¬ F wb) : S2f cw wb base W' :=
  ⟨(World.cell?_of_block (a := ⟨cw, 0, none⟩) (hu.block cw (World.block_lt_of_cell? _ _ h.1) h1)).trans h.1, (World.cell?_of_block (a := ⟨wb, 0, none⟩) (hu.block wb (World.block_lt_of_cell? _ _ h.2) h2)).trans h.2⟩
def AtX (w : World) (rp ro cw wb : Nat) (base : Int) (c : Code) (A : Nat → Prop) (pre : List Pr) (W : World) : Prop := c = .ret ∧ (∀ j, A j ↔ j = rp ∨ j = ro) ∧ ∃ p, pre = [p] ∧ RBx w rp ro p true W ∧ S2f cw wb base W
def AtI (w : World) (rp ro cw wb : Nat) (base : Int) (A : Nat → Prop) (pre : List Pr) (W : World) : Prop := pre = [] ∧ (∀ j, A j ↔ j = rp ∨ j = ro) ∧ RBx w rp ro zP false W ∧ S2f cw wb base W
set_option maxHeartbeats 4000000 in
theorem at_pos (w : World) (wb : Nat) (l : List Pr) (h : WkOn w wb l) (k : Nat) (hk : k ≤ 9223372036854775807) :
    Calls Tryz.prog 62 #[.pointer (some ⟨wb, 0, none⟩), .int .i64 (k : Int)] w fun e w' => e = .returned (.tuple #[pairV (l[k]?.getD zP), .bool l[k]?.isSome]) ∧ Below w.heap.size w w' := by
  obtain ⟨rp, hrp⟩ : ∃ rp, rp = w.heap.size := ⟨_, rfl⟩
  obtain ⟨ro, hro⟩ : ∃ ro, ro = w.heap.size + 1 := ⟨_, rfl⟩
  obtain ⟨W0, hW0⟩ : ∃ W0, W0 = (w.alloc (.cells #[.string ⟨#[]⟩, .int .i64 0] 47)).alloc (.cells #[.bool false] 4) := ⟨_, rfl⟩
  have hs0 : W0.heap.size = w.heap.size + 2 := by rw [hW0]; simp
  have hR0 : RBx w rp ro zP false W0 := by
    refine ⟨?_, ⟨by omega, by omega, by omega⟩, ?_, ?_⟩
    · rw [hW0]; exact ((Below.refl _ w).alloc (Nat.le_refl _) _).alloc (by simp) _
    · rw [hW0, hrp, (MapKept.heap_alloc _ _).2 _ (by simp)]; exact alloc_newP _ _
    · have e : ro = (w.alloc (.cells #[.string ⟨#[]⟩, .int .i64 0] 47)).heap.size := by rw [hro]; simp
      rw [hW0, e]; exact alloc_newP _ _
  have HR0 : Hid (RBx w rp ro zP false W0) := hR0
  have hne : rp ≠ ro := by omega
  have HH : Hid (WkOn w wb l) := h
  have hwb : wb < w.heap.size := by obtain ⟨D, _, _, hW⟩ := h.at'; exact hW.lt
  have HSZ : Hid (rp = w.heap.size ∧ ro = w.heap.size + 1 ∧ W0.heap.size = w.heap.size + 2) := ⟨hrp, hro, hs0⟩
  clear hR0 h hs0
  refine (callsIn_wide (n := 0)).1 (callsIn_of_wp_marks Tryz.func62 rfl trivial ?_ rfl)
  refine wpIn_wide.2 ?_
  simp only [Tryz.ntmps62, List.size_toArray, List.length_cons, List.length_nil, Nat.reduceAdd, Nat.reduceSub, Array.replicate_succ, Array.replicate_zero, List.push_toArray, List.append_toArray, List.nil_append, List.cons_append]
  go_upto_region 1 with fail
  rw [← hro, ← hrp, ← hW0]
  clear hro hrp hW0
  go_wp2_with (go_at_call 38; refine (from_any wb (k : Int) W0).mono ?_; rintro e w1 ⟨rfl, t1, t2, hw1⟩; have HW1 : Hid (w1 = (W0.alloc (.cells #[.pointer (some ⟨wb, 0, none⟩)] t1)).alloc (.cells #[.int .i64 (k : Int)] t2)) := hw1; clear hw1)
  have hw1 := HW1.out
  clear HW1
  have hbl : Below W0.heap.size W0 w1 := by rw [hw1]; exact ((Below.refl _ W0).alloc (Nat.le_refl _) _).alloc (by simp) _
  have hcw : w1.cell? ⟨W0.heap.size, 0, none⟩ = some (.pointer (some ⟨wb, 0, none⟩)) := by rw [hw1]; simp
  have hci : w1.cell? ⟨W0.heap.size + 1, 0, none⟩ = some (.int .i64 (k : Int)) := by rw [hw1]; simp
  obtain ⟨hz1, hz2, hz3⟩ := HSZ.out
  have hs1 : w1.heap.size = w.heap.size + 4 := by rw [hw1]; simp; omega
  have hR1 : RBx w rp ro zP false w1 := HR0.out.upd (F := fun _ => False) (Upd.of_below hbl) id id (fun _ e => e.elim)
  have hX0 : S2f W0.heap.size wb (machOf l).1 w1 := ⟨hcw, by
    obtain ⟨D, _, _, hW⟩ := HH.out.at'
    obtain ⟨_, _, _, _, q0, _⟩ := hW.facts
    exact (hR1.bel.cell (p := ⟨wb, 0, none⟩) hwb).trans q0⟩
  generalize W0.heap.size = cw at *
  clear hw1 hbl
  refine wp_rangeC (gf := 69) (lb := #[.pointer (some ⟨cw, 0, none⟩), .pointer (some ⟨cw + 1, 0, none⟩)]) rfl (enters_of Tryz.func69 (by kernel_rfl) rfl) (from_seq w wb l HH.out cw (cw + 1) k hk) rfl
    (AtI w rp ro cw wb (machOf l).1) (AtX w rp ro cw wb (machOf l).1)
    (fun j => j = rp ∨ j = ro) ?_ ?_ ?_ ?_ ⟨rfl, fun j => Iff.rfl, hR1, hX0⟩ ?_ ?_ ?_
  · intro j hj; rcases hj with e | e <;> omega
  · intro W hb
    refine ⟨hR1.bel.trans (hb.mono hR1.bel.size), fun j hj => (by rcases hj with (e | e) | e | e <;> omega), (hb.cell (p := ⟨cw, 0, none⟩) (by show cw < _; omega)).trans hcw, (hb.cell (p := ⟨cw + 1, 0, none⟩) (by show cw + 1 < _; omega)).trans hci, fun e => (by rcases e with (e | e) | e | e <;> omega)⟩
  · rintro A pre W W' ⟨h1, h2, h3, h4⟩ hu
    refine ⟨h1, h2, h3.upd hu (fun e => e.1 ((h2 rp).2 (.inl rfl))) (fun e => e.1 ((h2 ro).2 (.inr rfl))) (fun j e => by omega), h4.upd hu (fun e => by omega) (fun e => by omega)⟩
  · rintro c A pre W W' ⟨h1, h2, p, h5, h3, h4⟩ hu
    exact ⟨h1, h2, p, h5, h3.upd hu (fun e => e.1 ((h2 rp).2 (.inl rfl))) (fun e => e.1 ((h2 ro).2 (.inr rfl))) (fun j e => by omega), h4.upd hu (fun e => by omega) (fun e => by omega)⟩
  · rintro n lp A pre x W ⟨h1, h2, h3, h4⟩ hl hnl hlt
    obtain ⟨x1, x2⟩ := x
    simp only [pairV]
    have HS1 : Hid (w1.heap.size = w.heap.size + 4) := hs1
    clear hz1 hz2 hz3 hs1
    gi_wp2
    refine ⟨Upd.of_below ((Below.refl _ W).alloc (Nat.le_refl _) _), fun W2 hu2 => ?_⟩
    obtain ⟨hz1, hz2, hz3⟩ := HSZ.out
    have hs1 := HS1.out
    have hua : Upd (fun j => j = w1.heap.size + 1) W W2 := (Upd.of_below (F := fun j => j = w1.heap.size + 1) ((Below.refl _ W).alloc (Nat.le_refl _) _)).trans hu2 (fun _ _ g => g)
    have hl2 : Lies A W2 := fun j hj => Nat.lt_of_lt_of_le (hl j hj) hua.size
    have hR2 := h3.upd hua (fun e => by omega) (fun e => by omega) (fun j e => by omega)
    have hX2 := h4.upd hua (fun e => by omega) (fun e => by omega)
    have hp2 : W2.heap[W.heap.size]? = some (.cells #[.string x1, .int .i64 x2] 47) := (hu2.block W.heap.size (by simp) (fun e => by omega)).trans (alloc_newP _ _)
    obtain ⟨pb, hpb⟩ : ∃ pb, pb = W.heap.size := ⟨_, rfl⟩
    rw [← hpb] at hp2 ⊢
    have p0 : W2.cell? ⟨pb, 0, none⟩ = some (.string x1) := by simp [World.cell?, hp2]
    have p1 : W2.cell? ⟨pb, 1, none⟩ = some (.int .i64 x2) := by simp [World.cell?, hp2]
    obtain ⟨y0, y1, y2, f0, f1, f2⟩ := hR2.facts
    have hset := hR2.set (y := (x1, x2)) (ok' := true)
    have HSET : Hid _ := hset
    have HX2 : Hid (S2f cw wb (machOf l).1 W2) := hX2
    have z0 : W2.cell? ⟨rp, 0, none⟩ = some (.string ⟨#[]⟩) := y0
    have z1 : W2.cell? ⟨rp, 1, none⟩ = some (.int .i64 0) := y1
    clear y0 y1 hset hz1 hz2 hz3 hs1 hp2 hpb hua hu2 hR2 hX2
    gi_wp2
    obtain ⟨hz1, hz2, hz3⟩ := HSZ.out
    have hu9 := HSET.out.2.mono (G := A) (fun j e => (h2 j).2 e)
    refine ⟨A, Ext.refl _ _, fun j hj => Nat.lt_of_lt_of_le (hl2 j hj) hu9.size, hu9, rfl, h2, (x1, x2), by first | rfl | (rw [h1]; rfl), HSET.out.1, HX2.out.upd HSET.out.2 (fun e => by omega) (fun e => by omega)⟩
  · rintro A' W hl ⟨h1, h2, h3, h4⟩ hD
    have hlk : l[k]? = none := List.getElem?_eq_none (by have := List.drop_eq_nil_iff.1 h1; exact this)
    have HS1 : Hid (w1.heap.size = w.heap.size + 4) := hs1
    obtain ⟨y0, y1, z2, f0, f1, f2⟩ := h3.facts
    have z0 : W.cell? ⟨rp, 0, none⟩ = some (.string ⟨#[]⟩) := y0
    have z1 : W.cell? ⟨rp, 1, none⟩ = some (.int .i64 0) := y1
    have HSET : Hid _ := h3.set (y := zP) (ok' := false)
    have HD : Hid (W.heap[w1.heap.size]? = some (.deferred (some []))) := hD
    generalize w1.heap.size = db at *
    clear y0 y1 hz1 hz2 hz3 hs1 h1 hD h3
    go_wp2
    obtain ⟨hz1, hz2, hz3⟩ := HSZ.out
    have hs1 := HS1.out
    have hset := HSET.out
    simp only [zP] at hset
    generalize (((W.setCell ⟨rp, 0, none⟩ (.string ⟨#[]⟩)).setCell ⟨rp, 1, none⟩ (.int .i64 0)).setCell ⟨ro, 0, none⟩ (.bool false)) = W' at *
    have hD2 : W'.heap[db]? = some (.deferred (some [])) := (hset.2.block db (Array.getElem?_eq_some_iff.1 HD.out).1 (fun e => by omega)).trans HD.out
    have hfin := hset.1.upd (Upd.put db (.deferred none)) (fun e => by omega) (fun e => by omega) (fun j e => by omega)
    obtain ⟨q0, q1, q2, _⟩ := hfin.facts
    exact ⟨by simp, .inl ⟨_, _, rfl, run_takeDeferred hD2, _, at_results rfl rfl q0 q1 q2, by rw [hlk]; rfl, hfin.bel⟩⟩
  · rintro c A' q W hq hl' ⟨rfl, _, p, h2, h3, h4⟩ hD
    have hlk : l[k]? = some p := by
      rw [h2] at hq
      obtain ⟨t, ht⟩ := hq
      have := congrArg List.head? ht
      rw [List.head?_drop] at this
      simpa using this.symm
    have HS1 : Hid (w1.heap.size = w.heap.size + 4) := hs1
    have H3 : Hid _ := h3
    have HD : Hid (W.heap[w1.heap.size]? = some (.deferred (some []))) := hD
    generalize w1.heap.size = db at *
    clear hz1 hz2 hz3 hs1 h2 hD h3
    go_wp2
    obtain ⟨hz1, hz2, hz3⟩ := HSZ.out
    have hs1 := HS1.out
    have hfin := H3.out.upd (Upd.put db (.deferred none)) (fun e => by omega) (fun e => by omega) (fun j e => by omega)
    obtain ⟨q0, q1, q2, _⟩ := hfin.facts
    exact ⟨by simp, .inl ⟨_, _, rfl, run_takeDeferred HD.out, _, at_results rfl rfl q0 q1 q2, by rw [hlk]; rfl, hfin.bel⟩⟩
theorem At_any (w : World) (wb : Nat) (l : List Pr) (h : WkOn w wb l) (i : Int) (hi : i ≤ 9223372036854775807) :
    Calls Tryz.prog 62 #[.pointer (some ⟨wb, 0, none⟩), .int .i64 i] w fun e w' => e = .returned (.tuple #[pairV ((atP l i).getD zP), .bool (atP l i).isSome]) ∧ Below w.heap.size w w' := by
  by_cases h0 : i < 0
  · have e : atP l i = none := by unfold atP; rw [if_neg (by omega)]
    rw [e]
    exact at_neg w wb i h0
  · obtain ⟨k, rfl⟩ : ∃ k : Nat, i = k := ⟨i.toNat, by omega⟩
    have e : atP l k = l[k]? := by unfold atP; rw [if_pos (by omega), Int.toNat_natCast]
    rw [e]
    exact at_pos w wb l h k (by omega)
end Go.Proofs.YtllmdfkiogmofaaGreatDoor

/- Len. -/
namespace Go.Proofs.YtllmdfkiogmofaaGreatDoor
open Go.RowKit Nums Fm Pk
set_option maxRecDepth 100000

/-- What Len looks at. -/
structure SLn (wb g off k : Nat) (ws : Value) (c : Nat) (W : World) : Prop where
  c2 : W.cell? ⟨wb, 2, none⟩ = some ws
  cx : W.cell? ⟨g, off + k, none⟩ = some (.int .i64 (c : Int))
theorem SLn.facts {wb g off k : Nat} {ws : Value} {c : Nat} {W : World} (h : SLn wb g off k ws c W) : W.cell? ⟨wb, 2, none⟩ = some ws ∧ W.cell? ⟨g, off + k, none⟩ = some (.int .i64 (c : Int)) := ⟨h.1, h.2⟩
set_option maxHeartbeats 2000000 in
theorem Len_any (E : Nat) (w : World) (wb : Nat) (base : Int) (m : List RSt) (cs : List Nat) (h : WkAt E w wb base m cs) (hcs : cs.length = m.length) :
    Calls Tryz.prog 13 #[.pointer (some ⟨wb, 0, none⟩)] w fun e w' => e = .returned (.int .i64 ((cs.getD (m.length - 1) 0 : Nat) : Int)) ∧ Below w.heap.size w w' := by
  have HRT : Hid (∀ W, WkAt E W wb base m cs → Calls Tryz.prog 36 #[.pointer (some ⟨wb, 0, none⟩)] W fun e w' => e = .returned (.int .i64 ((m.length : Int) - 1)) ∧ w' = W) := fun W hW => Root_any E W wb base m cs hW
  by_cases h0 : m = []
  · subst h0
    have HH : Hid (WkAt E w wb base [] cs) := h
    have HC : Hid (cs = []) := List.eq_nil_of_length_eq_zero hcs
    clear h hcs
    go_enter Tryz.func13, Tryz.ntmps13
    go_wp2_with (go_at_call 36; refine (HRT.out _ HH.out).mono ?_; rintro e w1 ⟨rfl, hw1⟩; rw [hw1]; clear hw1)
    go_ret
    exact ⟨by rw [HC.out]; rfl, Below.refl _ _⟩
  · have hpos := List.length_pos_iff.2 h0
    obtain ⟨sd, sc, wd, wc, c0, c1, c2, hS, hG⟩ := h.facts
    obtain ⟨k, hk⟩ : ∃ k, m.length = k + 1 := ⟨m.length - 1, by omega⟩
    obtain ⟨c, hc⟩ : ∃ c, cs[k]? = some c := ⟨cs[k]'(by omega), List.getElem?_eq_getElem _⟩
    obtain ⟨g, off, rfl, hg, cx⟩ := hG.num hc
    have hl := hS.len
    have HW : Hid (WkAt E w wb base m cs) := h
    have HWd : Hid (WkAt E w.drew wb base m cs) := h.below (Below.refl _ w).drew
    have hS0 : SLn wb g off k (.slice (some ⟨g, off, none⟩) cs.length wc) c w.drew := ⟨c2, cx⟩
    have HCC : Hid (cs.getD (m.length - 1) 0 = c) := by
      show _ = _
      rw [hk, Nat.add_sub_cancel, List.getD_eq_getElem?_getD, hc]
      rfl
    have HBW : Hid (Below w.heap.size w w.drew) := (Below.refl _ w).drew
    rw [hcs, hk] at hS0
    rw [hk] at HRT
    have hkz : ((k + 1 : Nat) : Int) - 1 = (k : Int) := by omega
    rw [hkz] at HRT
    have hl2 : k + 1 ≤ 9223372036854775807 := by omega
    have hkz2 : (k : Int) < (k : Int) + 1 := by omega
    clear hG hS c0 c1 c2 cx h hl
    go_enter Tryz.func13, Tryz.ntmps13
    go_upto_region 3 with (go_at_call 36; refine (HRT.out _ HW.out).mono ?_; rintro e w1 ⟨rfl, hw1⟩; rw [hw1]; clear hw1)
    refine region_at (S := SLn wb g off k (.slice (some ⟨g, off, none⟩) (k + 1) wc) c) 9 rfl mixedP hS0 (fun _ => ?_)
    refine take_at (i := 0) 6 rfl rfl (by kernel_rfl) (by kernel_rfl) (by kernel_rfl) (fun _ _ _ h => h) (by rfl) (fun w hSw => by (have hSw2 := SLn.facts hSw; clear hSw; go_simp; first | done | exact rfl)) (by assumption) ?_
    simp only [List.setIfInBounds_toArray, List.set_cons_zero, List.set_cons_succ]
    refine take_at (i := 1) 7 rfl rfl (by kernel_rfl) (by kernel_rfl) (by kernel_rfl) (fun _ _ _ h => h) (by rfl) (fun w hSw => by (have hSw2 := SLn.facts hSw; clear hSw; go_simp; first | done | exact rfl)) (by assumption) ?_
    simp only [List.setIfInBounds_toArray, List.set_cons_zero, List.set_cons_succ]
    refine take_at (i := 2) 8 rfl rfl (by kernel_rfl) (by kernel_rfl) (by kernel_rfl) (fun _ _ _ h => h) (by rfl) (fun w hSw => by (have hSw2 := SLn.facts hSw; clear hSw; go_simp; first | done | exact rfl)) (by assumption) ?_
    simp only [List.setIfInBounds_toArray, List.set_cons_zero, List.set_cons_succ]
    refine take_at (i := 3) 9 rfl rfl (by kernel_rfl) (by kernel_rfl) (by kernel_rfl) (fun _ _ _ h => h) (by rfl) (fun w hSw => by (have hSw2 := SLn.facts hSw; clear hSw; go_simp; first | done | exact rfl)) (by assumption) ?_
    simp only [List.setIfInBounds_toArray, List.set_cons_zero, List.set_cons_succ]
    refine take_at (i := 4) 10 rfl rfl (by kernel_rfl) (by kernel_rfl) (by kernel_rfl) (fun _ _ _ h => h) (by rfl) (fun w hSw => by (have hSw2 := SLn.facts hSw; clear hSw; go_simp; first | done | exact rfl)) (by assumption) ?_
    simp only [List.setIfInBounds_toArray, List.set_cons_zero, List.set_cons_succ]
    refine one_call (i := 5) (w0 := w.drew) 11 36 #[.pointer (some ⟨wb, 0, none⟩)] (by kernel_rfl) rfl rfl (by rfl) (by kernel_rfl) ?_
    refine (HRT.out _ HWd.out).mono ?_
    rintro e w1 ⟨rfl, hw1⟩
    subst hw1
    refine ⟨_, rfl, hS0, fun _ => ?_⟩
    simp only [List.setIfInBounds_toArray, List.set_cons_zero, List.set_cons_succ]
    refine take_at (i := 6) 12 rfl rfl (by kernel_rfl) (by kernel_rfl) (by kernel_rfl) (fun _ _ _ h => h) (by rfl) (fun w hSw => by (have hSw2 := SLn.facts hSw; clear hSw; go_simp; first | done | exact rfl)) (by assumption) ?_
    simp only [List.setIfInBounds_toArray, List.set_cons_zero, List.set_cons_succ]
    refine take_at (i := 7) 13 rfl rfl (by kernel_rfl) (by kernel_rfl) (by kernel_rfl) (fun _ _ _ h => h) (by rfl) (fun w hSw => by (have hSw2 := SLn.facts hSw; clear hSw; go_simp; first | done | exact rfl)) (by assumption) ?_
    simp only [List.setIfInBounds_toArray, List.set_cons_zero, List.set_cons_succ]
    refine take_at (i := 8) 2 rfl rfl (by kernel_rfl) (by kernel_rfl) (by kernel_rfl) (fun _ _ _ h => h) (by rfl) (fun w hSw => by (have hSw2 := SLn.facts hSw; clear hSw; go_simp; first | done | exact rfl)) (by assumption) ?_
    simp only [List.setIfInBounds_toArray, List.set_cons_zero, List.set_cons_succ]
    clear hkz2
    refine wpAnyH_done (by kernel_rfl) ?_ _
    clear hS0
    go_wp2
    go_ret
    exact ⟨by rw [HCC.out]; rfl, HBW.out⟩
end Go.Proofs.YtllmdfkiogmofaaGreatDoor

/- Rank. -/
namespace Go.Proofs.YtllmdfkiogmofaaGreatDoor
open Go.RowKit Nums Fm Pk
set_option maxRecDepth 100000

/-- The first place where p holds. -/
structure FirstAt (n : Nat) (p : Nat → Bool) (r : Nat) : Prop where
  le : r ≤ n
  lo : ∀ k, k < r → p k = false
  hi : ∀ k, r ≤ k → k < n → p k = true
theorem half_run (x : Int) (t : TypeId) (W : World) : (binOp .shr t (.int .u64 x) (.int .u64 1)).run Tryz.prog W = .ok (.int .u64 (x / 2)) W := by
  rw [binOp_shr, shift_shr_u64 _ _ _ (by omega) (by omega)]
  rfl
set_option maxHeartbeats 2000000 in
theorem search_any (n : Nat) (p : Nat → Bool) (w : World) (c0 c1 : Value) (hn : n ≤ 4611686018427387903) (hm : ∀ a b, a ≤ b → b < n → p a = true → p b = true)
    (hf : ∀ W k, Below w.heap.size w W → k < n → Calls Tryz.prog 61 #[.int .i64 (k : Int), c0, c1] W fun e w' => e = .returned (.bool (p k)) ∧ Below W.heap.size W w') :
    Calls Tryz.prog 60 #[.int .i64 (n : Int), .func (.func 61) #[] #[c0, c1]] w fun e w' => ∃ r : Nat, e = .returned (.int .i64 (r : Int)) ∧ FirstAt n p r ∧ Below w.heap.size w w' := by
  have HF : Hid (∀ W k, Below w.heap.size w W → k < n → Calls Tryz.prog 61 #[.int .i64 (k : Int), c0, c1] W fun e w' => e = .returned (.bool (p k)) ∧ Below W.heap.size W w') := hf
  have HM : Hid (∀ a b, a ≤ b → b < n → p a = true → p b = true) := hm
  clear hf hm
  go_enter Tryz.func60, Tryz.ntmps60
  go_wp2
  go_loopg [5, 6, 7] n (fun gm s5 s6 _ wr => ∃ (i j : Nat), s5 = .int .i64 i ∧ s6 = .int .i64 j ∧ i ≤ j ∧ j ≤ n ∧ j - i ≤ gm ∧ Hid ((∀ k, k < i → p k = false) ∧ ∀ k, j ≤ k → k < n → p k = true) ∧ Hid (Below w.heap.size w wr))
  case atStart => exact ⟨0, n, rfl, rfl, Nat.zero_le _, Nat.le_refl _, by omega, ⟨fun k hk => by omega, fun k h1 h2 => by omega⟩, Below.refl _ _⟩
  case round =>
    obtain ⟨i, j, rfl, rfl, hij, hjn, hgm, HP, HB⟩ := hrel
    by_cases hlt : i < j
    · have hltz : (i : Int) < (j : Int) := by omega
      obtain ⟨h, hh⟩ : ∃ h, h = (i + j) / 2 := ⟨_, rfl⟩
      have h1 : i ≤ h := by omega
      have h2 : h < j := by omega
      have hhz : ((i : Int) + (j : Int)) / 2 = (h : Int) := by omega
      have HC : Hid (Calls Tryz.prog 61 #[.int .i64 (h : Int), c0, c1] wr fun e w' => e = .returned (.bool (p h)) ∧ Below wr.heap.size wr w') := HF.out wr h HB.out (by omega)
      have HHZ : Hid (((i : Int) + (j : Int)) / 2 = (h : Int)) := hhz
      have hh63 : (h : Int) ≤ 9223372036854775807 := by omega
      clear hhz hh
      go_upto_region 4 with fail
      rw [HHZ.out]
      cases hph : p h with
      | false =>
        rw [hph] at HC
        have HN : Hid ((∀ k, k < h + 1 → p k = false) ∧ ∀ k, j ≤ k → k < n → p k = true) := ⟨fun k hk => (by
          cases hpk : p k with
          | false => rfl
          | true => exact absurd ((HM.out k h (by omega) (by omega) hpk).symm.trans hph) (by simp)), HP.out.2⟩
        clear hph
        go_wp2_with (go_at_call 61; refine HC.out.mono ?_; rintro e w2 ⟨rfl, hb2⟩; have HB2 : Hid (Below w.heap.size w w2) := HB.out.trans (hb2.mono HB.out.size); clear hb2)
        go_roundg (j - (h + 1))
        case measure => omega
        case rel => exact ⟨h + 1, j, by go_num, by go_num, by omega, hjn, Nat.le_refl _, HN, HB2⟩
      | true =>
        rw [hph] at HC
        have HN : Hid ((∀ k, k < i → p k = false) ∧ ∀ k, h ≤ k → k < n → p k = true) := ⟨HP.out.1, fun k h3 h4 => HM.out h k h3 h4 hph⟩
        clear hph
        go_wp2_with (go_at_call 61; refine HC.out.mono ?_; rintro e w2 ⟨rfl, hb2⟩; have HB2 : Hid (Below w.heap.size w w2) := HB.out.trans (hb2.mono HB.out.size); clear hb2)
        go_roundg (h - i)
        case measure => omega
        case rel => exact ⟨i, h, by go_num, by go_num, h1, by omega, Nat.le_refl _, HN, HB2⟩
    · have hltz : ¬ (i : Int) < (j : Int) := by omega
      go_wp2
      go_ret
      have e : i = j := by omega
      exact ⟨i, rfl, ⟨by omega, HP.out.1, by rw [e]; exact HP.out.2⟩, HB.out⟩
end Go.Proofs.YtllmdfkiogmofaaGreatDoor

/- Rank. -/
namespace Go.Proofs.YtllmdfkiogmofaaGreatDoor
open Go.RowKit Nums Fm Pk Pm
set_option maxRecDepth 100000

theorem LenW_any (w : World) (wb : Nat) (l : List Pr) (h : WkOn w wb l) :
    Calls Tryz.prog 13 #[.pointer (some ⟨wb, 0, none⟩)] w fun e w' => e = .returned (.int .i64 (l.length : Int)) ∧ Below w.heap.size w w' := by
  obtain ⟨D, hM, hI, hW⟩ := h.at'
  have h1 := Len_any _ w wb _ _ _ hW (by rw [List.length_map, List.length_map, hI.len])
  have e : (D.map List.length).getD (((machOf l).2.map ofSt).length - 1) 0 = l.length := by
    rcases mach_nil h.ok with hl | ⟨hl, n, hn⟩
    · subst hl
      have : D = [] := by
        have := hI.len
        simpa [machOf] using this
      rw [this]
      rfl
    · have hr := (hM hl).root
      rw [List.length_map, List.getD_eq_getElem?_getD, List.getElem?_map, hr]
      show (level (ents l)).length = _
      simp [level, shift, ents]
  rw [e] at h1
  exact h1
set_option maxHeartbeats 1000000 in
theorem rank1_any (W : World) (wb : Nat) (l : List Pr) (h : WkOn W wb l) (c0 c1 : Nat) (s : ByteArray) (h0 : W.cell? ⟨c0, 0, none⟩ = some (.pointer (some ⟨wb, 0, none⟩))) (h1 : W.cell? ⟨c1, 0, none⟩ = some (.string s)) (k : Nat) (hk : k < l.length) (hl : l.length ≤ 4096) :
    Calls Tryz.prog 61 #[.int .i64 (k : Int), .pointer (some ⟨c0, 0, none⟩), .pointer (some ⟨c1, 0, none⟩)] W fun e w' => e = .returned (.bool (!lessB (l.getD k zP).1 s)) ∧ Below W.heap.size W w' := by
  obtain ⟨x, hx⟩ : ∃ x, l[k]? = some x := ⟨l[k], List.getElem?_eq_getElem _⟩
  have HA : Hid (Calls Tryz.prog 62 #[.pointer (some ⟨wb, 0, none⟩), .int .i64 (k : Int)] W fun e w' => e = .returned (.tuple #[.agg #[.string x.1, .int .i64 x.2], .bool true]) ∧ Below W.heap.size W w') := by
    have := at_pos W wb l h k (by omega)
    rw [hx] at this
    exact this
  have e : l.getD k zP = x := by rw [List.getD_eq_getElem?_getD, hx]; rfl
  rw [e]
  obtain ⟨F, hF⟩ : ∃ F, lessB x.1 s = F := ⟨_, rfl⟩
  have HPL : Hid (∀ W', Calls Tryz.prog 63 #[.string x.1, .string s] W' fun e w' => e = .returned (.bool F) ∧ w' = W') := fun W' => by rw [← hF]; exact pless_any x.1 s W'
  have HC1 : Hid (∀ w', Below W.heap.size W w' → w'.cell? ⟨c1, 0, none⟩ = some (.string s)) := fun w' hb => (hb.cell (p := ⟨c1, 0, none⟩) (World.block_lt_of_cell? _ _ h1)).trans h1
  rw [hF]
  clear h hx e hF h1
  go_enter Tryz.func61, Tryz.ntmps61
  go_upto_region 2 with (go_at_call 62; refine HA.out.mono ?_; rintro e w1 ⟨rfl, hb1⟩; have HB1 : Hid (Below W.heap.size W w1) := hb1; clear hb1)
  obtain ⟨W2, hW2⟩ : ∃ W2, W2 = w1.alloc (.cells #[.string x.1, .int .i64 x.2] 47) := ⟨_, rfl⟩
  rw [← hW2]
  have hb2 : Below w1.heap.size w1 W2 := by rw [hW2]; exact (Below.refl _ w1).alloc (Nat.le_refl _) _
  have HB2 : Hid (Below W.heap.size W W2) := HB1.out.trans (hb2.mono HB1.out.size)
  have p0 : W2.cell? ⟨w1.heap.size, 0, none⟩ = some (.string x.1) := by rw [hW2]; simp
  have p1 := HC1.out W2 HB2.out
  clear hW2 hb2
  go_wp2_with (go_at_call 63; refine (HPL.out _).mono ?_; rintro e w3 ⟨rfl, hw3⟩; rw [hw3]; clear hw3)
  go_ret
  exact ⟨by first | rfl | simp, HB2.out⟩
theorem first_one {n : Nat} {p : Nat → Bool} {r q : Nat} (h : FirstAt n p r) (h' : FirstAt n p q) : r = q := by
  rcases Nat.lt_trichotomy r q with g | g | g
  · have h1 := h'.lo r g
    have h2 := h.hi r (Nat.le_refl _) (by have := h'.le; omega)
    rw [h1] at h2; cases h2
  · exact g
  · have h1 := h.lo q g
    have h2 := h'.hi q (Nat.le_refl _) (by have := h.le; omega)
    rw [h1] at h2; cases h2
/-- Words rise. -/
def Rising (l : List Pr) : Prop := ∀ a b, a < b → b < l.length → lessB (l.getD a zP).1 (l.getD b zP).1 = true
set_option maxHeartbeats 1000000 in
theorem Rank_any (w : World) (wb : Nat) (l : List Pr) (h : WkOn w wb l) (hl : l.length ≤ 4096) (hu : Rising l) (s : ByteArray) :
    Calls Tryz.prog 29 #[.pointer (some ⟨wb, 0, none⟩), .string s] w fun e w' => ∃ r : Nat, e = .returned (.int .i64 (r : Int)) ∧ FirstAt l.length (fun k => !lessB (l.getD k zP).1 s) r ∧ Below w.heap.size w w' := by
  obtain ⟨c0, hc0⟩ : ∃ c0, c0 = w.heap.size := ⟨_, rfl⟩
  obtain ⟨c1, hc1⟩ : ∃ c1, c1 = w.heap.size + 1 := ⟨_, rfl⟩
  have HLn : Hid (∀ W, Below w.heap.size w W → Calls Tryz.prog 13 #[.pointer (some ⟨wb, 0, none⟩)] W fun e w' => e = .returned (.int .i64 (l.length : Int)) ∧ Below W.heap.size W w') := fun W hW => LenW_any W wb l (h.below hW)
  have HS : Hid (∀ W, Below w.heap.size w W → W.cell? ⟨c0, 0, none⟩ = some (.pointer (some ⟨wb, 0, none⟩)) → W.cell? ⟨c1, 0, none⟩ = some (.string s) → Calls Tryz.prog 60 #[.int .i64 (l.length : Int), .func (.func 61) #[] #[.pointer (some ⟨c0, 0, none⟩), .pointer (some ⟨c1, 0, none⟩)]] W fun e w' => ∃ r : Nat, e = .returned (.int .i64 (r : Int)) ∧ FirstAt l.length (fun k => !lessB (l.getD k zP).1 s) r ∧ Below W.heap.size W w') := fun W hW g0 g1 => by
    refine search_any l.length _ W _ _ (by omega) (fun a b hab hb hp => ?_) (fun W2 k hW2 hk => ?_)
    · by_cases e : a = b
      · rw [← e]; exact hp
      · have h1 := hu a b (by omega) hb
        simp only [Bool.not_eq_true'] at hp ⊢
        cases hbs : lessB (l.getD b zP).1 s with
        | false => rfl
        | true => have := lessB_sto.tr _ _ _ h1 hbs; rw [hp] at this; cases this
    · exact rank1_any W2 wb l (h.below (hW.trans (hW2.mono hW.size))) c0 c1 s ((hW2.cell (p := ⟨c0, 0, none⟩) (World.block_lt_of_cell? _ _ g0)).trans g0) ((hW2.cell (p := ⟨c1, 0, none⟩) (World.block_lt_of_cell? _ _ g1)).trans g1) k hk hl
  obtain ⟨n, hn⟩ : ∃ n, l.length = n := ⟨_, rfl⟩
  rw [hn] at HLn HS hl ⊢
  clear h hn hu
  go_enter Tryz.func29, Tryz.ntmps29
  go_upto_region 1 with fail
  rw [← hc1, ← hc0]
  generalize hW1 : (w.alloc _).alloc _ = W1
  have hb1 : Below w.heap.size w W1 := by rw [← hW1]; exact ((Below.refl _ w).alloc (Nat.le_refl _) _).alloc (by simp) _
  have HB1 : Hid (Below w.heap.size w W1) := hb1
  have g0 : W1.cell? ⟨c0, 0, none⟩ = some (.pointer (some ⟨wb, 0, none⟩)) := by rw [← hW1, hc0]; simp
  have g1 : W1.cell? ⟨c1, 0, none⟩ = some (.string s) := by rw [← hW1, hc1]; simp
  have HG : Hid (∀ W, Below W1.heap.size W1 W → W.cell? ⟨c0, 0, none⟩ = some (.pointer (some ⟨wb, 0, none⟩)) ∧ W.cell? ⟨c1, 0, none⟩ = some (.string s)) := fun W hW => ⟨(hW.cell (p := ⟨c0, 0, none⟩) (World.block_lt_of_cell? _ _ g0)).trans g0, (hW.cell (p := ⟨c1, 0, none⟩) (World.block_lt_of_cell? _ _ g1)).trans g1⟩
  clear hb1 hW1 g1 hc0 hc1
  go_wp2_with (first
    | (go_at_call 13; refine (HLn.out _ HB1.out).mono ?_; rintro e w2 ⟨rfl, hb2⟩; have HB2 : Hid (Below W1.heap.size W1 w2) := hb2; clear hb2)
    | (go_at_call 60; refine (HS.out _ (HB1.out.trans (HB2.out.mono HB1.out.size)) (HG.out _ HB2.out).1 (HG.out _ HB2.out).2).mono ?_; rintro e w3 ⟨r, rfl, hfa, hb3⟩))
  go_ret
  have hb12 := HB1.out.trans (HB2.out.mono HB1.out.size)
  exact ⟨r, rfl, hfa, hb12.trans (hb3.mono hb12.size)⟩
end Go.Proofs.YtllmdfkiogmofaaGreatDoor
