/- Texts that were written apart, joined. -/
import Derived.Test.YthecngkdmnadoaaGreatG33
import Derived.Test.YthecngkdmnadoaaGreatWalL2
import Derived.Test.YthecngkdmnadoaaGreatG31
import Derived.Test.YthecngkdmnadoaaGreatG27
import Derived.Test.YthecngkdmnadoaaGreatWalFr
import Derived.Test.YthecngkdmnadoaaGreatG00
/- A record laid behind the last one's, in the segment that is there: extend. -/
namespace Go.Proofs.YthecngkdmnadoaaGreat
open Go.RowKit
set_option maxRecDepth 100000

theorem WalAt.seg {w : World} {b : Nat} {n : WN} {v : WV} (h : WalAt w b n v) : SegAt w b 5 (walC n v) 83 n.area n.sector (.slice v.ta n.tail v.tc) := ⟨by simp [walC], h⟩
theorem SegAt.wal {w : World} {b : Nat} {n : WN} {v : WV} {s : Nat} {ta : Option Addr} {tl tc : Nat} (h : SegAt w b 5 (walC n v) 83 n.area s (.slice ta tl tc)) : WalAt w b { n with sector := s, tail := tl } { v with ta := ta, tc := tc } := h.hb
def S5 (b p : Nat) (W : World) : Prop := W.cell? ⟨b, 0, none⟩ = some (.pointer (some ⟨p, 0, none⟩))
theorem S5.facts {b p : Nat} {W : World} (h : S5 b p W) : W.cell? ⟨b, 0, none⟩ = some (.pointer (some ⟨p, 0, none⟩)) := h
/-- What lay leaves of the log in block b. -/
def LaidW (N b : Nat) (R : LayR) (fp : List Nat) (n : WN) (v : WV) (w w' : World) : Prop :=
  ∃ fp' tv', DiskAt N w' v.p R.d fp' ∧ SegAt w' b 5 (walC n v) 83 n.area R.sector tv' ∧ (R.tail = none → tv' = .slice v.ta n.tail v.tc) ∧ (∀ t, R.tail = some t → NewRow w.heap.size (b :: fp') w' tv' t) ∧ Only (b :: fp) w w' ∧ (∀ k ∈ fp', k ∈ fp ∨ w.heap.size ≤ k) ∧ b ∉ fp'
theorem LaidW.s5 {N b : Nat} {R : LayR} {fp : List Nat} {n : WN} {v : WV} {w w' : World} (h : LaidW N b R fp n v w w') : S5 b v.p w' := by
  obtain ⟨fp', tv', _, h2, _⟩ := h
  unfold S5 World.cell?
  rw [h2.hb]
  rfl
set_option maxHeartbeats 2000000 in
theorem extend_more (N b : Nat) (d : DS) (fp : List Nat) (n : WN) (v : WV) (tl x : List Nat) (xa : Option Addr) (xc : Nat) (w : World) (h : DiskAt N w v.p d fp) (hw : WalAt w b n v) (hbf : b ∉ fp) (ht : Row w.heap.size w (.slice v.ta n.tail v.tc) tl) (hx : Row w.heap.size w (.slice xa x.length xc) x)
    (hl1 : tl.length < 1024) (hl2 : x.length < 4096) (hN : N < 274877906944) (hsec : n.sector ≤ 1099511627776) (htl : n.tail = tl.length) (hwn : wantsN n.sector n.tail = false) :
    Calls Tryz.prog 56 #[.pointer (some ⟨b, 0, none⟩), .slice xa x.length xc] w fun e w' => (¬ fitsE d n.tail x.length = 0 ∧ e = .returned (.int .i64 (fitsE d n.tail x.length)) ∧ ∃ k, w' = w.drewN k) ∨ (fitsE d n.tail x.length = 0 ∧ e = .returned (.int .i64 (layR d n.area n.sector (tl ++ x)).e) ∧ LaidW (N + (tl ++ x).length + 1) b (layR d n.area n.sector (tl ++ x)) fp n v w w') := by
  have HWA : Hid (Calls Tryz.prog 78 #[.pointer (some ⟨b, 5, none⟩)] w fun e w' => e = .returned (.bool false) ∧ w' = w) := hwn ▸ wants_any w b n v hw
  have hc := hw.cells
  have HFI : Hid (∀ k, Calls Tryz.prog 75 #[.pointer (some ⟨b, 5, none⟩), .pointer (some ⟨v.p, 0, none⟩), .int .i64 (x.length : Int)] (w.drewN k) fun e w' => e = .returned (.int .i64 (fitsE d n.tail x.length)) ∧ ∃ j, w' = (w.drewN k).drewN j) := fun k => fits_any N v.p b 5 d fp v.ta n.tail v.tc x.length (w.drewN k) (h.same fun _ _ => rfl) hc.2.2.2.2.2.2.2.1 (by omega) (by omega)
  obtain ⟨c0, c1, c2, c3, c4, c5, c6, c7, c8, c9, hz⟩ := hc
  obtain ⟨R, hR⟩ : ∃ R, layR d n.area n.sector (tl ++ x) = R := ⟨_, rfl⟩
  have HLA : Hid (∀ k, Calls Tryz.prog 76 #[.pointer (some ⟨b, 5, none⟩), .pointer (some ⟨v.p, 0, none⟩), .slice xa x.length xc] (w.drewN k) fun e w' => e = .returned (.int .i64 R.e) ∧ LaidW (N + (tl ++ x).length + 1) b R fp n v w w') := by
    intro k
    refine (lay_any N v.p b 5 (walC n v) 83 n.area n.sector _ _ tl x d fp (w.drewN k) (h.same fun _ _ => rfl) (hw.seg.same rfl) hbf ht hx (by omega) (by omega) hN (by omega) hsec).mono ?_
    rw [hR]
    rintro e w' ⟨rfl, fp', tv', a1, a2, a3, a4, a5, a6, a7⟩
    exact ⟨rfl, fp', tv', a1, a2, a3, a4, ⟨a5.os, a5.tape, a5.output, a5.size, a5.block⟩, a6, a7⟩
  rw [hR]
  obtain ⟨xl, hxl⟩ : ∃ xl, x.length = xl := ⟨_, rfl⟩
  obtain ⟨fe, hfe⟩ : ∃ fe, fitsE d n.tail x.length = fe := ⟨_, rfl⟩
  rw [hfe] at HFI ⊢
  rw [hxl] at HFI HLA
  rw [hxl]
  obtain ⟨p, hp⟩ : ∃ p, v.p = p := ⟨_, rfl⟩
  rw [hp] at c0 HFI HLA
  clear c1 c2 c3 c4 c5 c6 c7 c8 c9 h hw ht hx hfe hR hxl
  go_enter Tryz.func56, Tryz.ntmps56
  go_wp2_with (go_at_call 78; refine HWA.out.mono ?_; rintro e w0 ⟨rfl, hw0⟩; subst w0)
  have hS0 : ∀ k, S5 b p (w.drewN k) := fun _ => c0
  refine region_at (S := S5 b p) 11 rfl (by kernel_rfl) (hS0 1) (fun _ => ?_)
  refine take_at (i := 0) 15 rfl rfl (by kernel_rfl) (by kernel_rfl) (by kernel_rfl) (fun _ _ _ h => h) (by rfl) (fun w hSw => by (have hSw2 := S5.facts hSw; clear hSw; go_simp; first | done | exact rfl)) (by assumption) ?_
  simp only [List.setIfInBounds_toArray, List.set_cons_zero, List.set_cons_succ]
  refine take_at (i := 1) 16 rfl rfl (by kernel_rfl) (by kernel_rfl) (by kernel_rfl) (fun _ _ _ h => h) (by rfl) (fun w hSw => by (have hSw2 := S5.facts hSw; clear hSw; go_simp; first | done | exact rfl)) (by assumption) ?_
  simp only [List.setIfInBounds_toArray, List.set_cons_zero, List.set_cons_succ]
  refine take_at (i := 2) 17 rfl rfl (by kernel_rfl) (by kernel_rfl) (by kernel_rfl) (fun _ _ _ h => h) (by rfl) (fun w hSw => by (have hSw2 := S5.facts hSw; clear hSw; go_simp; first | done | exact rfl)) (by assumption) ?_
  simp only [List.setIfInBounds_toArray, List.set_cons_zero, List.set_cons_succ]
  refine take_at (i := 3) 18 rfl rfl (by kernel_rfl) (by kernel_rfl) (by kernel_rfl) (fun _ _ _ h => h) (by rfl) (fun w hSw => by (have hSw2 := S5.facts hSw; clear hSw; go_simp; first | done | exact rfl)) (by assumption) ?_
  simp only [List.setIfInBounds_toArray, List.set_cons_zero, List.set_cons_succ]
  refine take_at (i := 4) 19 rfl rfl (by kernel_rfl) (by kernel_rfl) (by kernel_rfl) (fun _ _ _ h => h) (by rfl) (fun w hSw => by (have hSw2 := S5.facts hSw; clear hSw; go_simp; first | done | exact rfl)) (by assumption) ?_
  simp only [List.setIfInBounds_toArray, List.set_cons_zero, List.set_cons_succ]
  refine take_at (i := 5) 20 rfl rfl (by kernel_rfl) (by kernel_rfl) (by kernel_rfl) (fun _ _ _ h => h) (by rfl) (fun w hSw => by (have hSw2 := S5.facts hSw; clear hSw; go_simp; first | done | exact rfl)) (by assumption) ?_
  simp only [List.setIfInBounds_toArray, List.set_cons_zero, List.set_cons_succ]
  refine take_at (i := 6) 21 rfl rfl (by kernel_rfl) (by kernel_rfl) (by kernel_rfl) (fun _ _ _ h => h) (by rfl) (fun w hSw => by (have hSw2 := S5.facts hSw; clear hSw; go_simp; first | done | exact rfl)) (by assumption) ?_
  simp only [List.setIfInBounds_toArray, List.set_cons_zero, List.set_cons_succ]
  refine take_at (i := 7) 22 rfl rfl (by kernel_rfl) (by kernel_rfl) (by kernel_rfl) (fun _ _ _ h => h) (by rfl) (fun w hSw => by (have hSw2 := S5.facts hSw; clear hSw; go_simp; first | done | exact rfl)) (by assumption) ?_
  simp only [List.setIfInBounds_toArray, List.set_cons_zero, List.set_cons_succ]
  refine take_at (i := 8) 23 rfl rfl (by kernel_rfl) (by kernel_rfl) (by kernel_rfl) (fun _ _ _ h => h) (by rfl) (fun w hSw => by (have hSw2 := S5.facts hSw; clear hSw; go_simp; first | done | exact rfl)) (by assumption) ?_
  simp only [List.setIfInBounds_toArray, List.set_cons_zero, List.set_cons_succ]
  refine one_call (i := 9) (w0 := w.drew) 24 75 #[.pointer (some ⟨b, 5, none⟩), .pointer (some ⟨p, 0, none⟩), .int .i64 (xl : Int)] (by kernel_rfl) rfl rfl (by rfl) (by kernel_rfl) ?_
  refine (HFI.out 1).mono ?_
  rintro e w1 ⟨rfl, j1, hw1⟩
  obtain ⟨k1, hk1⟩ : ∃ k1, w1 = w.drewN k1 := ⟨1 + j1, by rw [hw1, World.drewN_drewN]⟩
  clear hw1
  subst w1
  refine ⟨_, rfl, c0, fun _ => ?_⟩
  simp only [List.setIfInBounds_toArray, List.set_cons_zero, List.set_cons_succ]
  refine one_value (i := 10) (v := .int .i64 fe) (w' := w.drewN k1) 5 (by kernel_rfl) rfl rfl (by rfl) (by kernel_rfl) c0 (fun _ => ?_)
  refine wpAnyH_done (by kernel_rfl) ?_ _
  simp only [List.setIfInBounds_toArray, List.set_cons_zero, List.set_cons_succ]
  by_cases h0 : fe = 0
  · subst h0
    go_wp2_with fail
    refine region_at (S := S5 b p) 10 rfl (by kernel_rfl) c0 (fun _ => ?_)
    refine take_at (i := 0) 28 rfl rfl (by kernel_rfl) (by kernel_rfl) (by kernel_rfl) (fun _ _ _ h => h) (by rfl) (fun w hSw => by (have hSw2 := S5.facts hSw; clear hSw; go_simp; first | done | exact rfl)) (by assumption) ?_
    simp only [List.setIfInBounds_toArray, List.set_cons_zero, List.set_cons_succ]
    refine take_at (i := 1) 29 rfl rfl (by kernel_rfl) (by kernel_rfl) (by kernel_rfl) (fun _ _ _ h => h) (by rfl) (fun w hSw => by (have hSw2 := S5.facts hSw; clear hSw; go_simp; first | done | exact rfl)) (by assumption) ?_
    simp only [List.setIfInBounds_toArray, List.set_cons_zero, List.set_cons_succ]
    refine take_at (i := 2) 30 rfl rfl (by kernel_rfl) (by kernel_rfl) (by kernel_rfl) (fun _ _ _ h => h) (by rfl) (fun w hSw => by (have hSw2 := S5.facts hSw; clear hSw; go_simp; first | done | exact rfl)) (by assumption) ?_
    simp only [List.setIfInBounds_toArray, List.set_cons_zero, List.set_cons_succ]
    refine take_at (i := 3) 31 rfl rfl (by kernel_rfl) (by kernel_rfl) (by kernel_rfl) (fun _ _ _ h => h) (by rfl) (fun w hSw => by (have hSw2 := S5.facts hSw; clear hSw; go_simp; first | done | exact rfl)) (by assumption) ?_
    simp only [List.setIfInBounds_toArray, List.set_cons_zero, List.set_cons_succ]
    refine take_at (i := 4) 32 rfl rfl (by kernel_rfl) (by kernel_rfl) (by kernel_rfl) (fun _ _ _ h => h) (by rfl) (fun w hSw => by (have hSw2 := S5.facts hSw; clear hSw; go_simp; first | done | exact rfl)) (by assumption) ?_
    simp only [List.setIfInBounds_toArray, List.set_cons_zero, List.set_cons_succ]
    refine take_at (i := 5) 33 rfl rfl (by kernel_rfl) (by kernel_rfl) (by kernel_rfl) (fun _ _ _ h => h) (by rfl) (fun w hSw => by (have hSw2 := S5.facts hSw; clear hSw; go_simp; first | done | exact rfl)) (by assumption) ?_
    simp only [List.setIfInBounds_toArray, List.set_cons_zero, List.set_cons_succ]
    refine take_at (i := 6) 34 rfl rfl (by kernel_rfl) (by kernel_rfl) (by kernel_rfl) (fun _ _ _ h => h) (by rfl) (fun w hSw => by (have hSw2 := S5.facts hSw; clear hSw; go_simp; first | done | exact rfl)) (by assumption) ?_
    simp only [List.setIfInBounds_toArray, List.set_cons_zero, List.set_cons_succ]
    refine take_at (i := 7) 35 rfl rfl (by kernel_rfl) (by kernel_rfl) (by kernel_rfl) (fun _ _ _ h => h) (by rfl) (fun w hSw => by (have hSw2 := S5.facts hSw; clear hSw; go_simp; first | done | exact rfl)) (by assumption) ?_
    simp only [List.setIfInBounds_toArray, List.set_cons_zero, List.set_cons_succ]
    refine one_call (i := 8) (w0 := w.drewN (k1 + 1)) 36 76 #[.pointer (some ⟨b, 5, none⟩), .pointer (some ⟨p, 0, none⟩), .slice xa xl xc] (by kernel_rfl) rfl rfl (by rfl) (by kernel_rfl) ?_
    refine (HLA.out (k1 + 1)).mono ?_
    rintro e w2 ⟨rfl, hlaid⟩
    have hS2 : S5 b p w2 := hp ▸ hlaid.s5
    refine ⟨_, rfl, hS2, fun _ => ?_⟩
    simp only [List.setIfInBounds_toArray, List.set_cons_zero, List.set_cons_succ]
    refine one_value (i := 9) (v := .int .i64 R.e) (w' := w2) 4 (by kernel_rfl) rfl rfl (by rfl) (by kernel_rfl) hS2 (fun _ => ?_)
    refine wpAnyH_done (by kernel_rfl) ?_ _
    simp only [List.setIfInBounds_toArray, List.set_cons_zero, List.set_cons_succ]
    go_wp2_with fail
    go_ret
    exact ⟨rfl, by rw [← List.length_append]; exact hlaid⟩
  · have h0b : (fe == 0) = false := by simpa using h0
    have h0n : (fe != 0) = true := by simpa using h0
    go_wp2_with fail
    go_ret
    exact .inl ⟨h0, rfl, k1, rfl⟩
end Go.Proofs.YthecngkdmnadoaaGreat

/- append at the records' row. -/
namespace Go.Proofs.YthecngkdmnadoaaGreat
open Go.RowKit
set_option maxRecDepth 100000

/-- 'append(s, x)': the slice x lies in a block that was made for it. -/
theorem append_srun {w : World} {B : Nat} {v : Value} {l : List Sv} (x : Sv) (nb c : Nat) (hown : SOwn B w v l) (hx : w.cell? ⟨nb, 0, none⟩ = some (encS x)) (hB : B ≤ w.heap.size) (h63 : l.length < 2199023255552) (ty : TypeId) :
    ∃ v' w', (Builtin.append_ #[80, 80] ty #[v, .slice (some ⟨nb, 0, none⟩) 1 c]).run Tryz.prog w = .ok v' w' ∧ SOwn B w' v' (l ++ [x]) ∧ w.grownBy w' v.ownBlock := by
  obtain ⟨i0, hi, hz0, hz1, hz2⟩ := info_parts info_S
  obtain ⟨v', w', h1, h2, h3, _⟩ := run_append_own (P := Tryz.prog) w B 80 ty 34 i0 _ 1 24 Tryz.underlying80 hi hz0 hz1 hz2 rfl (by decide) v l.length _ hown ⟨nb, 0, none⟩ 1 c [encS x] rfl (fun j u hj => by
    match j, hj with
    | 0, hj => simp at hj; rw [← hj]; simpa [Addr.add] using hx
    | j + 1, hj => simp at hj) (by intro u hu; simp at hu; rw [hu]; rfl) (by simp only [maxLen]; omega) (by omega) hB
  refine ⟨v', w', h1, ?_, h3⟩
  unfold SOwn
  rw [List.length_append, List.map_append]
  exact h2
/-- The law of it in a walk. -/
theorem append_s {W : World} {ops : Array Oper} {rest : List Oper} {o : Oper} {a : Act} {Q : Exit → Act → World → Prop} (hgd : o.guard = none) (s y : Operand) (x : Sv) (T : TypeId)
    (ho : o.op = .call { callee := .builtin .append, args := #[s, y], argTypes := #[80, 80] }) (B nb c : Nat) (v : Value) (l : List Sv) (hs : a.eval s = v) (hown : SOwn B W v l) (hx : a.eval y = .slice (some ⟨nb, 0, none⟩) 1 c) (hnb : nb = W.heap.size) (h63 : l.length < 2199023255552) (hB : B ≤ W.heap.size)
    (h : ∀ v' w', SOwn B w' v' (l ++ [x]) → (W.alloc (.cells #[encS x] T)).grownBy w' v.ownBlock → wpList Tryz.prog ops Q rest (a.put o.dst v') w') : wpList Tryz.prog ops Q (o :: rest) a (W.alloc (.cells #[encS x] T)) := by
  subst hnb
  obtain ⟨v', w', h1, h2, h3⟩ := append_srun (w := W.alloc (.cells #[encS x] T)) x W.heap.size c (hown.same fun g _ _ _ _ hg => alloc_old W _ hg) (by simp) (by simp; omega) h63 o.type
  refine wpList_plain hgd fun _ hK => ?_
  unfold Oper.wp execOp
  simp only [ho, resolve, invoke, builtin, Sem.run_bind, Sem.run_pure, Result.andThen_ok, List.map_toArray, List.map_cons, List.map_nil, hs, hx, h1]
  exact hK _ _ (h v' w' h2 h3)
/-- The same in a region that draws its order. -/
theorem exec_append_s {o : Oper} {ev : Operand → Value} {w : World} {B : Nat} {v : Value} {l : List Sv} (x : Sv) (nb c : Nat) (s y : Operand) (ho : o.op = .call { callee := .builtin .append, args := #[s, y], argTypes := #[80, 80] }) (hs : ev s = v) (hy : ev y = .slice (some ⟨nb, 0, none⟩) 1 c)
    (hown : SOwn B w v l) (hx : w.cell? ⟨nb, 0, none⟩ = some (encS x)) (hB : B ≤ w.heap.size) (h63 : l.length < 2199023255552) :
    ∃ v' w', (execOp ev o).run Tryz.prog w = .ok (.value v') w' ∧ SOwn B w' v' (l ++ [x]) ∧ w.grownBy w' v.ownBlock := by
  obtain ⟨v', w', h1, h2, h3⟩ := append_srun x nb c hown hx hB h63 o.type
  exact ⟨v', w', exec_append_run s y _ ho hs hy h1, h2, h3⟩
end Go.Proofs.YthecngkdmnadoaaGreat

/- The log as plain data, and in memory. -/
namespace Go.Proofs.YthecngkdmnadoaaGreat
open Go.RowKit
set_option maxRecDepth 100000

/-- A log as plain data. -/
structure LG where
  d : DS
  first : Nat
  next : Nat
  area : Nat
  sector : Nat
  adrift : Bool
  fault : Int
  l : List Pl
  L : List (List Nat)
  tl : List Nat
def LG.n (g : LG) : WN := ⟨g.first, g.L.length, g.next, g.area, g.sector, g.tl.length, g.adrift, g.fault⟩
def beginG (g : LG) (ix : Nat) (x : List Nat) : Int × LG :=
  if g.next = 1152921504606846976 then (51, g)
  else if ¬ fitsE g.d 0 (uw ix ++ x).length = 0 then (fitsE g.d 0 (uw ix ++ x).length, g)
  else if ¬ stepE g.d = 0 then (stepE g.d, { g with d := syD g.d g.area })
  else if ¬ (layR (syD g.d g.area) (4 * g.next + 1) 0 (uw ix ++ x)).e = 0 then ((layR (syD g.d g.area) (4 * g.next + 1) 0 (uw ix ++ x)).e, { g with d := (layR (syD g.d g.area) (4 * g.next + 1) 0 (uw ix ++ x)).d })
  else if ¬ (ffR (layR (syD g.d g.area) (4 * g.next + 1) 0 (uw ix ++ x)).d ((4 * g.next + 1 : Nat) : Int) ix g.l).1 = 0 then ((ffR (layR (syD g.d g.area) (4 * g.next + 1) 0 (uw ix ++ x)).d ((4 * g.next + 1 : Nat) : Int) ix g.l).1, { g with d := (ffR (layR (syD g.d g.area) (4 * g.next + 1) 0 (uw ix ++ x)).d ((4 * g.next + 1 : Nat) : Int) ix g.l).2 })
  else (0, { g with d := (ffR (layR (syD g.d g.area) (4 * g.next + 1) 0 (uw ix ++ x)).d ((4 * g.next + 1 : Nat) : Int) ix g.l).2, area := 4 * g.next + 1, sector := (layR (syD g.d g.area) (4 * g.next + 1) 0 (uw ix ++ x)).sector, tl := (layR (syD g.d g.area) (4 * g.next + 1) 0 (uw ix ++ x)).tail.getD [], l := keepQ ix g.l ++ [(g.next, ix)], next := g.next + 1, adrift := false })
def extG (g : LG) (x : List Nat) : Int × LG :=
  if wantsN g.sector g.tl.length = true then beginG g (g.first + g.L.length) x
  else if ¬ fitsE g.d g.tl.length x.length = 0 then (fitsE g.d g.tl.length x.length, g)
  else ((layR g.d g.area g.sector (g.tl ++ x)).e, { g with d := (layR g.d g.area g.sector (g.tl ++ x)).d, sector := (layR g.d g.area g.sector (g.tl ++ x)).sector, tl := (layR g.d g.area g.sector (g.tl ++ x)).tail.getD g.tl })
def keepG (r : Int × LG) : Int × LG := if r.1 = 51 then r else (r.1, { r.2 with fault := r.1 })
theorem layF_some (a : Nat) : ∀ (f : Nat) (d : DS) (s : Nat) (left : List Nat), (layF a f d s left).e = 0 → ∃ t, (layF a f d s left).tail = some t
  | 0, _, _, left, _ => ⟨left, rfl⟩
  | f + 1, d, s, left, h => by
    by_cases h63 : 63 ≤ left.length
    · by_cases he : wrE d a s (63 :: left.take 63) = 0
      · rw [layF_go h63 he] at h ⊢
        exact layF_some a f _ _ _ h
      · rw [layF_bad h63 he] at h
        exact absurd h he
    · by_cases h0 : left = []
      · subst h0
        rw [layF_nil]
        exact ⟨_, rfl⟩
      · rw [layF_end h63 h0]
        exact ⟨_, rfl⟩
/-- The blocks that calls on the log may change. -/
def logF (b : Nat) (v : WV) (fp : List Nat) : List Nat := b :: (ownB v.ra ++ (ownB v.pa ++ fp))
/-- The log in block b, its disk, its rows. -/
structure LogAt (N : Nat) (w : World) (b : Nat) (g : LG) (v : WV) (fp : List Nat) (s : List Sv) : Prop where
  disk : DiskAt N w v.p g.d fp
  wal : WalAt w b g.n v
  pl : QOwn 0 w (.slice v.pa v.pn v.pc) g.l
  recs : SOwn 0 w (.slice v.ra g.L.length v.rc) s
  rows : ∀ (i : Nat) (x : Sv) (xs : List Nat), s[i]? = some x → g.L[i]? = some xs → RowX (logF b v fp) w (encS x) xs
  tail : RowX (logF b v fp) w (.slice v.ta g.tl.length v.tc) g.tl
  bf : b ∉ fp
  paf : ∀ x ∈ ownB v.pa, x ∉ fp ∧ x ≠ b
  raf : ∀ x ∈ ownB v.ra, x ∉ fp ∧ x ≠ b ∧ x ∉ ownB v.pa
theorem LogAt.len {N : Nat} {w : World} {b : Nat} {g : LG} {v : WV} {fp : List Nat} {s : List Sv} (h : LogAt N w b g v fp s) : s.length = g.L.length ∧ v.pn = g.l.length := by
  constructor
  · obtain ⟨ad, cap, e⟩ := h.recs.shape
    simp only [Value.slice.injEq] at e
    exact e.2.1.symm
  · obtain ⟨ad, cap, e⟩ := h.pl.shape
    simp only [Value.slice.injEq] at e
    exact e.2.1
theorem LogAt.lt {N : Nat} {w : World} {b : Nat} {g : LG} {v : WV} {fp : List Nat} {s : List Sv} (h : LogAt N w b g v fp s) : ∀ x ∈ logF b v fp, x < w.heap.size := by
  intro x hx
  unfold logF at hx
  simp only [List.mem_cons, List.mem_append] at hx
  rcases hx with rfl | h1 | h1 | h1
  · exact h.wal.lt
  · exact h.recs.lt x h1
  · exact QOwn.ltB h.pl x h1
  · exact h.disk.lt x h1
theorem RowX.step {F F' : List Nat} {w w' : World} {v : Value} {xs : List Nat} (h : RowX F w v xs) (ho : Only F w w') (hs : ∀ k ∈ F', k ∈ F ∨ w.heap.size ≤ k) : RowX F' w' v xs := by
  have h1 := (h.mono (fp' := F ++ F') (fun x hx => by
    rcases List.mem_append.1 hx with h | h
    · exact .inl h
    · exact hs x h)).only (ho.wider (fun x hx => List.mem_append_left _ hx))
  exact ⟨h1.1, fun b off len cap e h0 hb => h1.2 b off len cap e h0 (List.mem_append_right _ hb)⟩
/-- What a call has left of the log. -/
def LogSays (N b : Nat) (r : Int × LG) (v : WV) (fp : List Nat) (w : World) (e : Ending) (w' : World) : Prop :=
  e = .returned (.int .i64 r.1) ∧ ∃ v' fp' s', LogAt N w' b r.2 v' fp' s' ∧ v'.p = v.p ∧ Only (logF b v fp) w w' ∧ ∀ k ∈ logF b v' fp', k ∈ logF b v fp ∨ w.heap.size ≤ k
theorem LogAt.below {N : Nat} {w w' : World} {b : Nat} {g : LG} {v : WV} {fp : List Nat} {s : List Sv} (h : LogAt N w b g v fp s) (hb : Below w.heap.size w w') : LogAt N w' b g v fp s := by
  have ho : Only (logF b v fp) w w' := Only.of_below hb
  exact ⟨h.disk.below hb, h.wal.below h.wal.lt hb, h.pl.below hb, h.recs.same (fun g _ _ _ _ hg => hb.block g hg), fun i x xs h1 h2 => (h.rows i x xs h1 h2).step ho (fun k hk => .inl hk), h.tail.step ho (fun k hk => .inl hk), h.bf, h.paf, h.raf⟩
theorem LogAt.more {N M : Nat} {w : World} {b : Nat} {g : LG} {v : WV} {fp : List Nat} {s : List Sv} (h : LogAt N w b g v fp s) (hm : N ≤ M) : LogAt M w b g v fp s := ⟨h.disk.mono hm, h.wal, h.pl, h.recs, h.rows, h.tail, h.bf, h.paf, h.raf⟩
/-- The disk alone has changed. -/
theorem LogAt.turn {N M : Nat} {w w' : World} {b : Nat} {g : LG} {v : WV} {fp fp' : List Nat} {s : List Sv} {d : DS} (h : LogAt N w b g v fp s) (ho : Only fp w w') (hd : DiskAt M w' v.p d fp') (hs : ∀ k ∈ fp', k ∈ fp ∨ w.heap.size ≤ k) : LogAt M w' b { g with d := d } v fp' s := by
  have hoF : Only (logF b v fp) w w' := ho.wider (fun x hx => by simp [logF, hx])
  have hsub : ∀ k ∈ logF b v fp', k ∈ logF b v fp ∨ w.heap.size ≤ k := fun k hk => by
    unfold logF at hk ⊢
    simp only [List.mem_cons, List.mem_append] at hk ⊢
    rcases hk with h1 | h1 | h1 | h1
    · exact .inl (.inl h1)
    · exact .inl (.inr (.inl h1))
    · exact .inl (.inr (.inr (.inl h1)))
    · exact (hs k h1).imp (fun h => .inr (.inr (.inr h))) id
  have hbl := h.wal.lt
  refine ⟨hd, (ho.block b hbl h.bf).trans h.wal, h.pl.only ho (fun ad n c e => ?_), h.recs.only ho (fun x hx => (h.raf x hx).1), fun i x xs h1 h2 => (h.rows i x xs h1 h2).step hoF hsub, h.tail.step hoF hsub, fun hb => ?_, fun x hx => ⟨fun hf => ?_, (h.paf x hx).2⟩, fun x hx => ⟨fun hf => ?_, (h.raf x hx).2⟩⟩
  · simp only [Value.slice.injEq] at e
    rw [← e.1]
    exact fun x hx => (h.paf x hx).1
  · rcases hs b hb with h1 | h1
    · exact h.bf h1
    · omega
  · rcases hs x hf with h1 | h1
    · exact (h.paf x hx).1 h1
    · have := QOwn.ltB h.pl x hx; omega
  · rcases hs x hf with h1 | h1
    · exact (h.raf x hx).1 h1
    · have := h.recs.lt x hx; omega
end Go.Proofs.YthecngkdmnadoaaGreat
