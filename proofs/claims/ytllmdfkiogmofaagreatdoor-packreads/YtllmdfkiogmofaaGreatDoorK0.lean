/- Texts that were written apart, joined. -/
import Derived.Test.YtllmdfkiogmofaaGreatDoorG9
import Derived.Test.YtllmdfkiogmofaaGreatDoorG6
/- codec.Read, and the end. -/
namespace Go.Proofs.YtllmdfkiogmofaaGreatDoor.Cd
open Go.RowKit
set_option maxRecDepth 100000

set_option maxHeartbeats 2000000 in
theorem codecRead_any (N : Nat) (v : Value) (xs : List Nat) (w : World) (hrow : Row N w v xs) (hx : ∀ x ∈ xs, x < 256) (hl : xs.length ≤ 140737488355328) :
    Calls Tryz.prog 19 #[v] w fun x w' => ∃ rb, x = .returned (.pointer (some ⟨rb, 0, none⟩)) ∧ w.heap.size ≤ rb ∧ Rd w' rb xs 0 ∧ Below w.heap.size w w' := by
  have HR : Hid (Row N w v xs) := hrow
  obtain ⟨ao, cap, rfl, hcap⟩ := hrow.shape
  clear hrow
  go_enter Tryz.func19, Tryz.ntmps19
  go_wp2_with (at_builtin; refine append_row (by rfl) _ _ rfl w.heap.size N _ _ [] xs rfl (Bytes.nil _ _) rfl HR.out (by simpa using hl) (Nat.le_refl _) ?_)
  intro v1 w1 hown1 hb1 _
  have hs1 := hb1.size
  have HO : Hid (Bytes w.heap.size w1 v1 xs) := hown1
  obtain ⟨ao1, cap1, rfl, hcap1⟩ := hown1.row.shape
  clear hown1
  go_wp2_with fail
  go_ret
  refine ⟨w1.heap.size, rfl, hs1, ⟨_, heap_alloc_new w1 _, HO.out.row.below ((Below.refl _ _).alloc (Nat.le_refl _) _), hx, hl⟩, hb1.alloc hs1 _⟩
set_option maxHeartbeats 1000000 in
theorem End_any (rb : Nat) (xs : List Nat) (e : Int) (w : World) (h : Rd w rb xs e) :
    Calls Tryz.prog 21 #[.pointer (some ⟨rb, 0, none⟩)] w fun x w' => x = .returned (.int .i64 (endE xs.length e)) ∧ ∃ n, w' = w.drewN n := by
  obtain ⟨v, h1, h2, h3, h4⟩ := h
  obtain ⟨c0, c1, f0, f1⟩ := rd_cells h1
  obtain ⟨ao, cap, rfl, hcap⟩ := h2.shape
  clear h1 h2 h3
  by_cases he : e = 0
  · subst he
    by_cases hx : 0 < xs.length
    · have HF : Hid (endE xs.length 0 = 23) := by show _ = _; rw [endE, if_pos ⟨rfl, hx⟩]
      go_enter Tryz.func21, Tryz.ntmps21
      go_wp2
      go_ret
      exact ⟨by rw [HF.out]; rfl, 0, rfl⟩
    · have HF : Hid (endE xs.length 0 = 0) := by show _ = _; rw [endE, if_neg (fun h => hx h.2)]
      have hx0 : (xs.length : Int) = 0 := by omega
      go_enter Tryz.func21, Tryz.ntmps21
      go_wp2
      go_ret
      exact ⟨by rw [HF.out]; rfl, 0, rfl⟩
  · have HF : Hid (endE xs.length e = e) := by show _ = _; rw [endE, if_neg (fun h => he h.1)]
    have hb : (e == 0) = false := by simpa using he
    go_enter Tryz.func21, Tryz.ntmps21
    go_wp2
    go_ret
    exact ⟨by rw [HF.out]; rfl, 0, rfl⟩
end Go.Proofs.YtllmdfkiogmofaaGreatDoor.Cd

/- readState. -/
namespace Go.Proofs.YtllmdfkiogmofaaGreatDoor
open Go.RowKit Nums Fm Pk
set_option maxRecDepth 100000

theorem RdU (rb : Nat) (st : Rs) (z : Int) (w : World) (h : Cd.Rd w rb st.1 st.2) (h0 : 0 ≤ z) : Calls Tryz.prog 45 #[.pointer (some ⟨rb, 0, none⟩), .int .u64 z] w fun x w' => ∃ v : Nat, x = .returned (.int .u64 (v : Int)) ∧ (v : Int) ≤ z ∧ v = (rU st z.toNat).1 ∧ Cd.Rd w' rb (rU st z.toNat).2.1 (rU st z.toNat).2.2 ∧ Cd.But rb w w' := by
  have := Cd.Uint_any rb st.1 st.2 z.toNat w h
  rw [Int.toNat_of_nonneg h0] at this
  have hb : Byt st := by obtain ⟨_, _, _, h3, _⟩ := h; exact h3
  have hle := rU_le (most := z.toNat) hb
  refine this.mono ?_
  rintro e w' ⟨rfl, h2, h3⟩
  exact ⟨(rU st z.toNat).1, rfl, by omega, rfl, h2, h3⟩
/-- While a state is read. -/
structure RW (rb : Nat) (w W : World) (qb sb : Nat) (fn : Bool) (ot : Int) (va : Value) (arcs : List RArc) (st : Rs) : Prop where
  but : Cd.But rb w W
  rd : Cd.Rd W rb st.1 st.2
  res : W.heap[qb]? = some (.cells #[.bool false, .int .i64 0, .slice none 0 0] 61)
  box : W.heap[sb]? = some (.cells #[.bool fn, .int .i64 ot, va] 61)
  row : GOwn 63 3 w.heap.size W va (arcs.map cellsRA)
theorem Cd.But.lt {r : Nat} {w w' : World} (h : Cd.But r w w') {j : Nat} (hj : j < w.heap.size) (hn : j ≠ r) : w'.heap[j]? = w.heap[j]? := h.block j hj hn
theorem RW.read {rb : Nat} {w W W' : World} {qb sb : Nat} {fn : Bool} {ot : Int} {va : Value} {arcs : List RArc} {st st' : Rs} (h : RW rb w W qb sb fn ot va arcs st) (hrb : rb < w.heap.size) (hq : qb ≠ rb) (hs : sb ≠ rb) (h1 : Cd.Rd W' rb st'.1 st'.2) (h2 : Cd.But rb W W') : RW rb w W' qb sb fn ot va arcs st' := by
  refine ⟨h.but.trans h2, h1, (h2.lt (Array.getElem?_eq_some_iff.1 h.res).1 hq).trans h.res, (h2.lt (Array.getElem?_eq_some_iff.1 h.box).1 hs).trans h.box, GOwn.same h.row fun g hg => ?_⟩
  have hgB := (GOwn.block h.row hg).1
  exact h2.lt (GOwn.lt h.row hg) (by omega)
theorem RW.facts {rb : Nat} {w W : World} {qb sb : Nat} {fn : Bool} {ot : Int} {va : Value} {arcs : List RArc} {st : Rs} (h : RW rb w W qb sb fn ot va arcs st) : W.cell? ⟨sb, 0, none⟩ = some (.bool fn) ∧ W.cell? ⟨sb, 1, none⟩ = some (.int .i64 ot) ∧ W.cell? ⟨sb, 2, none⟩ = some va ∧ (∀ o, W.frozen? ⟨sb, o, none⟩ = false) ∧ W.cell? ⟨qb, 0, none⟩ = some (.bool false) ∧ W.cell? ⟨qb, 1, none⟩ = some (.int .i64 0) ∧ W.cell? ⟨qb, 2, none⟩ = some (.slice none 0 0) ∧ (∀ o, W.frozen? ⟨qb, o, none⟩ = false) :=
  ⟨by simp [World.cell?, h.box], by simp [World.cell?, h.box], by simp [World.cell?, h.box], fun o => by simp [World.frozen?, h.box], by simp [World.cell?, h.res], by simp [World.cell?, h.res], by simp [World.cell?, h.res], fun o => by simp [World.frozen?, h.res]⟩
/-- Arcs within their bounds. -/
def ArcB (n : Nat) (a : RArc) : Prop := 0 ≤ a.label ∧ a.label ≤ 1114111 ∧ 0 ≤ a.out ∧ a.out ≤ 1048576 ∧ 0 ≤ a.to ∧ a.to ≤ n
theorem rs_results {tmps : Array Value} {w : World} {qb : Nat} {a b c : Value} (h2 : tmps.getD 4 undef = .pointer (some ⟨qb, 0, none⟩)) (c0 : w.cell? ⟨qb, 0, none⟩ = some a) (c1 : w.cell? ⟨qb, 1, none⟩ = some b) (c2 : w.cell? ⟨qb, 2, none⟩ = some c) : (results Tryz.f47 tmps).run Tryz.prog w = .ok (.agg #[a, b, c]) w := by
  have h2' : tmps[4]?.getD undef = .pointer (some ⟨qb, 0, none⟩) := by simpa using h2
  simp [results, Tryz.results47, go_sem, h2', c0, c1, c2]
/-- What region 11 looks at. -/
structure SR (rb : Nat) (w W0 : World) (sb : Nat) (va : Value) (W : World) : Prop where
  c2 : W.cell? ⟨sb, 2, none⟩ = some va
theorem SR.facts {rb : Nat} {w W0 : World} {sb : Nat} {va : Value} {W : World} (h : SR rb w W0 sb va W) : W.cell? ⟨sb, 2, none⟩ = some va := h.c2
theorem RW.arc {rb : Nat} {w W W' : World} {qb sb : Nat} {fn : Bool} {ot : Int} {va va' : Value} {arcs : List RArc} {st : Rs} {x : RArc} {o : Obj} (h : RW rb w W qb sb fn ot va arcs st) (hrb : rb < w.heap.size) (hqs : qb ≠ sb) (hsb : w.heap.size ≤ sb)
    (ho : GOwn 63 3 w.heap.size W' va' (arcs.map cellsRA ++ [cellsRA x])) (hg : (W.alloc o).grownBy W' va.ownBlock) : RW rb w (W'.setCell ⟨sb, 2, none⟩ va') qb sb fn ot va' (arcs ++ [x]) st ∧ W'.cell? ⟨sb, 2, none⟩ = some va ∧ ∀ c, W'.frozen? ⟨sb, c, none⟩ = false := by
  have hA : ∀ j, j < W.heap.size → (W.alloc o).heap[j]? = W.heap[j]? := fun j hj => (MapKept.heap_alloc _ _).2 j hj
  have hty : ∀ (j : Nat) (cur : Array Value) (T : TypeId) , W.heap[j]? = some (Obj.cells cur T (0, 0)) → T ≠ 63 → W'.heap[j]? = W.heap[j]? := fun j cur T hj hT => by
    have hjl := (Array.getElem?_eq_some_iff.1 hj).1
    refine (hg.block j (by simp; omega) (fun e => ?_)).trans (hA j hjl)
    obtain ⟨_, c2, hc2⟩ := GOwn.block h.row e.symm
    rw [hj] at hc2
    simp only [Option.some.injEq, Obj.cells.injEq] at hc2
    exact hT hc2.2.1
  have hlow : ∀ j, j < w.heap.size → W'.heap[j]? = W.heap[j]? := fun j hj => by
    refine (hg.block j (by have := h.but.size; simp; omega) (fun e => ?_)).trans (hA j (by have := h.but.size; omega))
    have := (GOwn.block h.row e.symm).1
    omega
  have hbx := (hty sb _ _ h.box (by decide)).trans h.box
  have hrs := set_rest W' sb 2 va'
  have hsz : W.heap.size ≤ W'.heap.size := Nat.le_trans (by simp) hg.size
  obtain ⟨v, r1, r2, r3⟩ := h.rd
  refine ⟨⟨?_, ?_, (set_other _ _ _ _ hqs).trans ((hty qb _ _ h.res (by decide)).trans h.res), by rw [set_at hbx]; rfl, ?_⟩, by simp [World.cell?, hbx], fun c => by simp [World.frozen?, hbx]⟩
  · exact ⟨hrs.1.trans (hg.os.trans h.but.os), hrs.2.1.trans (hg.tape.trans h.but.tape), hrs.2.2.1.trans (hg.output.trans h.but.output), by rw [hrs.2.2.2]; exact Nat.le_trans h.but.size hsz, fun j hj hn => (set_other _ _ _ _ (by omega)).trans ((hlow j hj).trans (h.but.block j hj hn))⟩
  · have e1 : ∀ j, j ≤ rb → (W'.setCell ⟨sb, 2, none⟩ va').heap[j]? = W.heap[j]? := fun j hj => (set_other _ _ _ _ (by omega)).trans (hlow j (by omega))
    refine ⟨v, (e1 rb (Nat.le_refl _)).trans r1, r2.below ⟨hrs.1.trans hg.os, hrs.2.1.trans hg.tape, hrs.2.2.1.trans hg.output, by rw [hrs.2.2.2]; exact hsz, fun j hj => e1 j (Nat.le_of_lt hj)⟩, r3⟩
  · rw [List.map_append]
    refine GOwn.same ho fun g hg2 => set_other _ _ _ _ (fun e => ?_)
    obtain ⟨_, c2, hc2⟩ := GOwn.block ho hg2
    rw [e, hbx] at hc2
    simp only [Option.some.injEq, Obj.cells.injEq] at hc2
    exact absurd hc2.2.1 (by decide)
theorem RW.out {rb : Nat} {w W : World} {qb sb : Nat} {fn : Bool} {ot : Int} {va : Value} {arcs : List RArc} {st : Rs} (h : RW rb w W qb sb fn ot va arcs st) (hrb : rb < w.heap.size) (hqs : qb ≠ sb) (hsb : w.heap.size ≤ sb) (o2 : Int) : RW rb w (W.setCell ⟨sb, 1, none⟩ (.int .i64 o2)) qb sb fn o2 va arcs st := by
  have hrs := set_rest W sb 1 (.int .i64 o2)
  obtain ⟨v, r1, r2, r3⟩ := h.rd
  refine ⟨⟨hrs.1.trans h.but.os, hrs.2.1.trans h.but.tape, hrs.2.2.1.trans h.but.output, by rw [hrs.2.2.2]; exact h.but.size, fun j hj hn => (set_other _ _ _ _ (by omega)).trans (h.but.block j hj hn)⟩, ⟨v, (set_other _ _ _ _ (by omega)).trans r1, r2.below ((Below.refl rb W).setCell (p := ⟨sb, 1, none⟩) (by simp only; omega) _), r3⟩, (set_other _ _ _ _ hqs).trans h.res, by rw [set_at h.box]; rfl, GOwn.same h.row fun g hg => set_other _ _ _ _ (fun e => ?_)⟩
  obtain ⟨_, c2, hc2⟩ := GOwn.block h.row hg
  rw [e, h.box] at hc2
  simp only [Option.some.injEq, Obj.cells.injEq] at hc2
  exact absurd hc2.2.1 (by decide)
theorem RW.drew {rb : Nat} {w W : World} {qb sb : Nat} {fn : Bool} {ot : Int} {va : Value} {arcs : List RArc} {st : Rs} (h : RW rb w W qb sb fn ot va arcs st) : RW rb w W.drew qb sb fn ot va arcs st :=
  ⟨h.but.drew, h.rd.but ((Below.refl _ W).drew), h.res, h.box, GOwn.below h.row ((Below.refl _ W).drew)⟩
theorem RW.fin {rb : Nat} {w W : World} {qb sb : Nat} {fn : Bool} {ot : Int} {va : Value} {arcs : List RArc} {st : Rs} (h : RW rb w W qb sb fn ot va arcs st) (hrb : rb < w.heap.size) (hq : w.heap.size ≤ qb) :
    (((W.setCell ⟨qb, 0, none⟩ (.bool fn)).setCell ⟨qb, 1, none⟩ (.int .i64 ot)).setCell ⟨qb, 2, none⟩ va).cell? ⟨qb, 0, none⟩ = some (.bool fn) ∧ (((W.setCell ⟨qb, 0, none⟩ (.bool fn)).setCell ⟨qb, 1, none⟩ (.int .i64 ot)).setCell ⟨qb, 2, none⟩ va).cell? ⟨qb, 1, none⟩ = some (.int .i64 ot) ∧ (((W.setCell ⟨qb, 0, none⟩ (.bool fn)).setCell ⟨qb, 1, none⟩ (.int .i64 ot)).setCell ⟨qb, 2, none⟩ va).cell? ⟨qb, 2, none⟩ = some va ∧
    GOwn 63 3 w.heap.size (((W.setCell ⟨qb, 0, none⟩ (.bool fn)).setCell ⟨qb, 1, none⟩ (.int .i64 ot)).setCell ⟨qb, 2, none⟩ va) va (arcs.map cellsRA) ∧ Cd.Rd (((W.setCell ⟨qb, 0, none⟩ (.bool fn)).setCell ⟨qb, 1, none⟩ (.int .i64 ot)).setCell ⟨qb, 2, none⟩ va) rb st.1 st.2 ∧ Cd.But rb w (((W.setCell ⟨qb, 0, none⟩ (.bool fn)).setCell ⟨qb, 1, none⟩ (.int .i64 ot)).setCell ⟨qb, 2, none⟩ va) := by
  have hb3 : (((W.setCell ⟨qb, 0, none⟩ (.bool fn)).setCell ⟨qb, 1, none⟩ (.int .i64 ot)).setCell ⟨qb, 2, none⟩ va).heap[qb]? = some (.cells #[.bool fn, .int .i64 ot, va] 61) := by
    rw [set_at (set_at (set_at h.res (.bool fn)) (.int .i64 ot)) va]
    rfl
  have he : ∀ j, j ≠ qb → (((W.setCell ⟨qb, 0, none⟩ (.bool fn)).setCell ⟨qb, 1, none⟩ (.int .i64 ot)).setCell ⟨qb, 2, none⟩ va).heap[j]? = W.heap[j]? := fun j hj => (set_other _ _ _ _ hj).trans ((set_other _ _ _ _ hj).trans (set_other _ _ _ _ hj))
  have hbl : Below w.heap.size W (((W.setCell ⟨qb, 0, none⟩ (.bool fn)).setCell ⟨qb, 1, none⟩ (.int .i64 ot)).setCell ⟨qb, 2, none⟩ va) := (((Below.refl _ W).setCell (p := ⟨qb, 0, none⟩) hq _).setCell (p := ⟨qb, 1, none⟩) hq _).setCell (p := ⟨qb, 2, none⟩) hq _
  obtain ⟨v, r1, r2, r3⟩ := h.rd
  refine ⟨by simp [World.cell?, hb3], by simp [World.cell?, hb3], by simp [World.cell?, hb3], GOwn.same h.row fun g hg => he g (fun e => ?_), ⟨v, (he rb (by omega)).trans r1, r2.below (hbl.mono (by omega)), r3⟩, ⟨hbl.os.trans h.but.os, hbl.tape.trans h.but.tape, hbl.output.trans h.but.output, Nat.le_trans h.but.size hbl.size, fun j hj hn => (hbl.block j hj).trans (h.but.block j hj hn)⟩⟩
  obtain ⟨_, c2, hc2⟩ := GOwn.block h.row hg
  rw [e, h.res] at hc2
  simp only [Option.some.injEq, Obj.cells.injEq] at hc2
  exact absurd hc2.2.1 (by decide)
set_option maxHeartbeats 4000000 in
theorem readState_any (rb n : Nat) (w : World) (st : Rs) (h : Cd.Rd w rb st.1 st.2) (hn : n ≤ 1048576) :
    Calls Tryz.prog 47 #[.pointer (some ⟨rb, 0, none⟩), .int .i64 n] w fun e w' => ∃ va, e = .returned (.agg #[.bool (rdS n st).1.final, .int .i64 (rdS n st).1.out, va]) ∧ GOwn 63 3 w.heap.size w' va ((rdS n st).1.arcs.map cellsRA) ∧ Cd.Rd w' rb (rdS n st).2.1 (rdS n st).2.2 ∧ Cd.But rb w w' ∧ (∀ a ∈ (rdS n st).1.arcs, ArcB n a) ∧ (rdS n st).1.arcs.length ≤ 4096 ∧ 0 ≤ (rdS n st).1.out ∧ (rdS n st).1.out ≤ 1048576 := by
  have hrb : rb < w.heap.size := by obtain ⟨_, h1, _⟩ := h; exact (Array.getElem?_eq_some_iff.1 h1).1
  obtain ⟨qb, hqb⟩ : ∃ qb, qb = w.heap.size := ⟨_, rfl⟩
  obtain ⟨W0, hW0⟩ : ∃ W0, W0 = w.alloc (.cells #[.bool false, .int .i64 0, .slice none 0 0] 61) := ⟨_, rfl⟩
  have hb0 : Below w.heap.size w W0 := by rw [hW0]; exact (Below.refl _ w).alloc (Nat.le_refl _) _
  have hq0 : W0.heap[qb]? = some (.cells #[.bool false, .int .i64 0, .slice none 0 0] 61) := by rw [hW0, hqb]; exact alloc_newP _ _
  have HR0 : Hid (Cd.Rd W0 rb st.1 st.2) := h.but hb0
  have HB0 : Hid (Below w.heap.size w W0) := hb0
  have HQ0 : Hid (W0.heap[qb]? = some (.cells #[.bool false, .int .i64 0, .slice none 0 0] 61)) := hq0
  clear h hb0 hq0
  go_enter Tryz.func47, Tryz.ntmps47
  go_upto_region 1 with fail
  rw [← hW0, ← hqb]
  have HQB : Hid (qb = w.heap.size) := hqb
  clear hW0 hqb
  go_upto_region 2 with (go_at_call 45; refine (RdU rb st 8193 W0 HR0.out (by omega)).mono ?_; rintro e w1 ⟨hd, rfl, hhd, hhe, hr1, hbt1⟩; have HHD : Hid (hd = (rU st 8193).1) := hhe; clear hhe)
  have hr1 : Cd.Rd w1 rb (rU st 8193).2.1 (rU st 8193).2.2 := hr1
  have hqb := HQB.out
  obtain ⟨sb, hsb⟩ : ∃ sb, sb = w1.heap.size := ⟨_, rfl⟩
  have hq1 := (hbt1.lt (Array.getElem?_eq_some_iff.1 HQ0.out).1 (by omega)).trans HQ0.out
  have hqs : qb ≠ sb := by have := (Array.getElem?_eq_some_iff.1 hq1).1; omega
  have hsr : sb ≠ rb := by have := hbt1.size; have := HB0.out.size; omega
  have hsw : w.heap.size ≤ sb := by have := hbt1.size; have := HB0.out.size; omega
  have HBT : Hid (Cd.But rb w w1) := (Cd.But.of_below HB0.out).trans hbt1
  have HAP : Hid (qb ≠ sb ∧ sb ≠ rb ∧ qb ≠ rb ∧ w.heap.size ≤ sb ∧ w.heap.size ≤ qb) := ⟨hqs, hsr, by omega, hsw, by omega⟩
  have HW : Hid (∀ fn, RW rb w (w1.alloc (.cells #[.bool fn, .int .i64 0, .slice none 0 0] 61)) qb sb fn 0 (.slice none 0 0) [] (rU st 8193).2) := fun fn => by
    have hbl : Below w1.heap.size w1 (w1.alloc (.cells #[.bool fn, .int .i64 0, .slice none 0 0] 61)) := (Below.refl _ w1).alloc (Nat.le_refl _) _
    refine ⟨HBT.out.trans (Cd.But.of_below hbl), hr1.but hbl, (hbl.block qb (Array.getElem?_eq_some_iff.1 hq1).1).trans hq1, by rw [hsb]; exact alloc_newP _ _, GOwn.nil _ _ _ _⟩
  have HRS : Hid (rdS n st = (⟨decide (hd % 2 = 1), (rdO hd (rU st 8193).2).1, (rdA n (hd / 2) 0 [] (rdO hd (rU st 8193).2).2).1⟩, (rdA n (hd / 2) 0 [] (rdO hd (rU st 8193).2).2).2)) := by show _ = _; rw [HHD.out]; rfl
  have hHd2 : hd ≤ 8193 := by omega
  clear hr1 hbt1 hq1 hqs hsr hsw hhd hqb
  by_cases hpar : hd % 2 = 1
  · have hpz : (hd : Int) % 2 = 1 := by omega
    obtain ⟨W1, hW1⟩ : ∃ W1, W1 = w1.alloc (.cells #[.bool true, .int .i64 0, .slice none 0 0] 61) := ⟨_, rfl⟩
    have HWa := HW.out true
    rw [← hW1] at HWa
    have HWA : Hid (RW rb w W1 qb sb true 0 (.slice none 0 0) [] (rU st 8193).2) := HWa
    clear HWa
    obtain ⟨f0, f1, f2, f3, g0, g1, g2, g3⟩ := HWA.out.facts
    go_upto_region 3 with fail
    rw [← hsb, ← hW1]
    clear hsb hW1
    go_upto_region 5 with (go_at_call 45; refine (RdU rb (rU st 8193).2 1048576 _ HWA.out.rd (by omega)).mono ?_; rintro e w2 ⟨ot, rfl, hot, hoe, hr2, hbt2⟩; have HOE : Hid (ot = (rU (rU st 8193).2 1048576).1) := hoe; clear hoe; have HWB : Hid (RW rb w w2 qb sb true 0 (.slice none 0 0) [] (rU (rU st 8193).2 1048576).2) := HWA.out.read hrb HAP.out.2.2.1 HAP.out.2.1 hr2 hbt2; clear f0 f1 f2 f3 g0 g1 g2 g3; obtain ⟨f0, f1, f2, f3, g0, g1, g2, g3⟩ := HWB.out.facts)
    obtain ⟨W3, hW3⟩ : ∃ W3, W3 = w2.setCell ⟨sb, 1, none⟩ (.int .i64 (ot : Int)) := ⟨_, rfl⟩
    have HWc := HWB.out.out hrb HAP.out.1 HAP.out.2.2.2.1 (ot : Int)
    rw [← hW3] at HWc
    have HRO : Hid (rdO hd (rU st 8193).2 = (ot, (rU (rU st 8193).2 1048576).2)) := by show _ = _; rw [rdO, if_pos hpar, HOE.out]
    rw [← hW3]
    have HW1 : Hid (RW rb w W3 qb sb true (ot : Int) (.slice none 0 0) [] (rU (rU st 8193).2 1048576).2) := HWc
    clear hW3 HWc f0 f1 f2 f3 g0 g1 g2 g3 hr2 hbt2
    obtain ⟨fn, hfn⟩ : ∃ fn : Bool, fn = true := ⟨_, rfl⟩
    have HDF : Hid (decide (hd % 2 = 1) = fn) := by show _ = _; rw [hfn]; exact decide_eq_true hpar
    rw [← hfn] at HW1
    clear hfn
    obtain ⟨oz, hoz⟩ : ∃ oz : Int, oz = (ot : Int) := ⟨_, rfl⟩
    have HOZ : Hid (oz = (ot : Int) ∧ oz ≤ 1048576 ∧ 0 ≤ oz) := ⟨hoz, by omega, by omega⟩
    rw [← hoz] at HW1
    generalize (rU (rU st 8193).2 1048576).2 = st1 at *
    clear hoz hpar hpz
    obtain ⟨c, hc⟩ : ∃ c, hd / 2 = c := ⟨_, rfl⟩
    have hcz : (hd : Int) / 2 = (c : Int) := by omega
    have HCC : Hid (hd / 2 = c) := hc
    have hcb : c ≤ 4096 := by omega
    go_wp2
    go_loopg [7, 8, 9] c (fun gm s7 s8 _ wr => ∃ (k : Nat) (p : Int) (va : Value) (arcs : List RArc) (st2 : Rs), s8 = .int .u64 k ∧ k ≤ c ∧ c - k ≤ gm ∧ s7 = .int .i32 p ∧ 0 ≤ p ∧ p ≤ 1114111 ∧ Hid (RW rb w wr qb sb fn oz va arcs st2) ∧ Hid (rdA n c 0 [] st1 = rdA n (c - k) p arcs st2) ∧ Hid (arcs.length ≤ k ∧ ∀ a ∈ arcs, ArcB n a))
    case atStart => exact ⟨0, 0, _, [], st1, rfl, Nat.zero_le _, by omega, rfl, by omega, by omega, HW1, rfl, ⟨Nat.le_refl _, fun a ha => by cases ha⟩⟩
    case round =>
      obtain ⟨k, p, va, arcs, st2, rfl, hk, hgm, rfl, hp0, hp1, HW, HQ, HL⟩ := hrel
      by_cases hlt : k < c
      · have hltz : (k : Int) < (c : Int) := by omega
        have HER : Hid (Calls Tryz.prog 46 #[.pointer (some ⟨rb, 0, none⟩)] wr fun x w' => x = .returned (.int .i64 st2.2) ∧ w' = wr) := Cd.Err_any rb _ _ wr HW.out.rd
        by_cases he : st2.2 = 0
        · have hv0 : k + 1 ≤ c := hlt
          have HRD : Hid (rdA n c 0 [] st1 = rdA n (c - (k + 1)) (p + (rU st2 (1114111 - p).toNat).1) (arcs ++ [⟨p + (rU st2 (1114111 - p).toNat).1, (rU (rU st2 (1114111 - p).toNat).2 1048576).1, n - (rU (rU (rU st2 (1114111 - p).toNat).2 1048576).2 n).1⟩]) (rU (rU (rU st2 (1114111 - p).toNat).2 1048576).2 n).2) := by
            show _ = _
            rw [HQ.out, show c - k = (c - (k + 1)) + 1 by omega, rdA, if_neg (fun hne => hne he)]
          rw [he] at HER
          go_upto_region 9 with (go_at_call 46; refine HER.out.mono ?_; rintro e we ⟨rfl, hwe⟩; rw [hwe]; clear hwe we)
          go_upto_region 10 with (go_at_call 45; refine (RdU rb st2 (1114111 - p) wr HW.out.rd (by omega)).mono ?_; rintro e V1 ⟨v1, rfl, hv1, hve1, hr1, hb1⟩; have HE1 : Hid (v1 = (rU st2 (1114111 - p).toNat).1) := hve1; have HV1 : Hid (RW rb w V1 qb sb fn oz va arcs (rU st2 (1114111 - p).toNat).2) := HW.out.read hrb HAP.out.2.2.1 HAP.out.2.1 hr1 hb1; clear hve1 hr1 hb1)
          go_upto_region 11 with (go_at_call 45; refine (RdU rb _ 1048576 V1 HV1.out.rd (by omega)).mono ?_; rintro e V2 ⟨v2, rfl, hv2, hve2, hr2, hb2⟩; have HE2 : Hid (v2 = (rU (rU st2 (1114111 - p).toNat).2 1048576).1) := hve2; have HV2 : Hid (RW rb w V2 qb sb fn oz va arcs (rU (rU st2 (1114111 - p).toNat).2 1048576).2) := HV1.out.read hrb HAP.out.2.2.1 HAP.out.2.1 hr2 hb2; clear hve2 hr2 hb2)
          obtain ⟨p2, hp2⟩ : ∃ p2, p2 = p + (v1 : Int) := ⟨_, rfl⟩
          have HVD := HV2.out.drew
          have hS0 : V2.drew.cell? ⟨sb, 2, none⟩ = some va := HVD.facts.2.2.1
          have HVDD : Hid (RW rb w V2.drew qb sb fn oz va arcs (rU (rU st2 (1114111 - p).toNat).2 1048576).2) := HVD
          have hnz0 : (0 : Int) ≤ (n : Int) := by omega
          have hwn : IntKind.u64.wrap (n : Int) = (n : Int) := by simp [IntKind.wrap, IntKind.bits, IntKind.signed]; omega
          obtain ⟨vd, vn, vc, hvv⟩ : ∃ vd vn vc, va = .slice vd vn vc := by
            obtain ⟨ad, cap, e, _⟩ := GOwn.shape HW.out.row
            exact ⟨_, _, _, e⟩
          subst hvv
          refine region_atE (S := fun W => W.cell? ⟨sb, 2, none⟩ = some (.slice vd vn vc)) 16 15 rfl mixedP ?_
          refine take_atE (i := 0) 44 rfl rfl (by kernel_rfl) (by kernel_rfl) (by kernel_rfl) (by kernel_rfl) (fun _ _ _ h => h) (by rfl) (fun _ s => by (have h := id s; clear s; go_simp; first | done | exact rfl)) (by assumption) ?_
          simp only [sZa, sZb, sZc]
          refine take_atE (i := 1) 45 rfl rfl (by kernel_rfl) (by kernel_rfl) (by kernel_rfl) (by kernel_rfl) (fun _ _ _ h => h) (by rfl) (fun _ s => by (have h := id s; clear s; go_simp; first | done | exact rfl)) (by assumption) ?_
          simp only [sZa, sZb, sZc]
          refine take_atE (i := 2) 46 rfl rfl (by kernel_rfl) (by kernel_rfl) (by kernel_rfl) (by kernel_rfl) (fun _ _ _ h => h) (by rfl) (fun _ s => by (have h := id s; clear s; go_simp; first | done | exact rfl)) (by assumption) ?_
          simp only [sZa, sZb, sZc]
          refine take_atE (i := 3) 47 rfl rfl (by kernel_rfl) (by kernel_rfl) (by kernel_rfl) (by kernel_rfl) (fun _ _ _ h => h) (by rfl) (fun _ s => by (have h := id s; clear s; go_simp; first | done | exact rfl)) (by assumption) ?_
          simp only [sZa, sZb, sZc]
          refine take_atE (i := 4) 48 rfl rfl (by kernel_rfl) (by kernel_rfl) (by kernel_rfl) (by kernel_rfl) (fun _ _ _ h => h) (by rfl) (fun _ s => by (have h := id s; clear s; go_simp; first | done | exact rfl)) (by assumption) ?_
          simp only [sZa, sZb, sZc]
          refine take_atE (i := 5) 49 rfl rfl (by kernel_rfl) (by kernel_rfl) (by kernel_rfl) (by kernel_rfl) (fun _ _ _ h => h) (by rfl) (fun _ s => by (have h := id s; clear s; go_simp; first | done | exact rfl)) (by assumption) ?_
          simp only [sZa, sZb, sZc]
          refine take_atE (i := 6) 50 rfl rfl (by kernel_rfl) (by kernel_rfl) (by kernel_rfl) (by kernel_rfl) (fun _ _ _ h => h) (by rfl) (fun _ s => by (have h := id s; clear s; go_simp; first | done | exact rfl)) (by assumption) ?_
          simp only [sZa, sZb, sZc]
          refine take_atE (i := 7) (v := .int .u64 (n : Int)) 51 rfl rfl (by kernel_rfl) (by kernel_rfl) (by kernel_rfl) (by kernel_rfl) (fun _ _ _ h => h) (by rfl) (fun _ s => by (have h := id s; clear s; go_simp; first | done | exact rfl | simp_all | (simp; omega))) (by assumption) ?_
          simp only [sZa, sZb, sZc]
          refine one_callE (i := 8) (w0 := V2.drew) 52 45 #[.pointer (some ⟨rb, 0, none⟩), .int .u64 (n : Int)] (by kernel_rfl) rfl rfl (by rfl) (by kernel_rfl) ?_
          refine (RdU rb _ (n : Int) V2.drew HVDD.out.rd hnz0).mono ?_
          rintro e V3 ⟨v3, rfl, hv3, hve3, hr3, hb3⟩
          have HV3 := HVDD.out.read hrb HAP.out.2.2.1 HAP.out.2.1 hr3 hb3
          have hS3 : V3.cell? ⟨sb, 2, none⟩ = some (.slice vd vn vc) := HV3.facts.2.2.1
          refine ⟨_, rfl, hS3, ?_⟩
          simp only [sZa, sZb, sZc]
          have hw3 : IntKind.i64.wrap (v3 : Int) = (v3 : Int) := by rw [IntKind.wrap_i64]; omega
          have hw4 : IntKind.i64.wrap ((n : Int) - (v3 : Int)) = (n : Int) - (v3 : Int) := by rw [IntKind.wrap_i64]; omega
          refine take_atE (i := 9) (v := .int .i64 (v3 : Int)) 53 rfl rfl (by kernel_rfl) (by kernel_rfl) (by kernel_rfl) (by kernel_rfl) (fun _ _ _ h => h) (by rfl) (fun _ s => by (have h := id s; clear s; go_simp; first | done | exact rfl | simp_all | (simp; omega))) (by assumption) ?_
          simp only [sZa, sZb, sZc]
          refine take_atE (i := 10) (v := .int .i64 ((n : Int) - (v3 : Int))) 54 rfl rfl (by kernel_rfl) (by kernel_rfl) (by kernel_rfl) (by kernel_rfl) (fun _ _ _ h => h) (by rfl) (fun _ s => by (have h := id s; clear s; go_simp; first | done | exact rfl | simp_all | (simp; omega))) (by assumption) ?_
          simp only [sZa, sZb, sZc]
          refine take_atE (i := 11) (v := .agg #[.int .i32 (p + (v1 : Int)), .int .i64 (v2 : Int), .int .i64 ((n : Int) - (v3 : Int))]) 55 rfl rfl (by kernel_rfl) (by kernel_rfl) (by kernel_rfl) (by kernel_rfl) (fun _ _ _ h => h) (by rfl) (fun _ s => by (have h := id s; clear s; go_simp; first | done | exact rfl | simp_all | (simp; omega))) (by assumption) ?_
          simp only [sZa, sZb, sZc]
          obtain ⟨x, hx⟩ : ∃ x : RArc, x = ⟨p + (v1 : Int), (v2 : Int), (n : Int) - (v3 : Int)⟩ := ⟨_, rfl⟩
          obtain ⟨V4, hV4⟩ : ∃ V4, V4 = V3.alloc (.cells #[.int .i32 (p + (v1 : Int)), .int .i64 (v2 : Int), .int .i64 ((n : Int) - (v3 : Int))] 63) := ⟨_, rfl⟩
          have hb4 : Below V3.heap.size V3 V4 := by rw [hV4]; exact (Below.refl _ V3).alloc (Nat.le_refl _) _
          have hn4 : V4.heap[V3.heap.size]? = some (.cells #[.int .i32 (p + (v1 : Int)), .int .i64 (v2 : Int), .int .i64 ((n : Int) - (v3 : Int))] 63) := by rw [hV4]; exact alloc_newP _ _
          have hwV : w.heap.size ≤ V3.heap.size := HV3.but.size
          obtain ⟨v', W', hap, ho', hgr, _⟩ := gappend_run rtyA (GOwn.below HV3.row hb4) (Nat.le_trans hwV hb4.size) (x := cellsRA x) ⟨rfl, by simp [cellsRA, Value.oneCell']⟩ (nb := V3.heap.size) (fun j u hj => by simp only [World.cell?, hn4]; rw [hx] at hj; simpa [cellsRA] using hj) (by rw [List.length_map]; have := HL.out.1; omega) 59 1
          have hgr' : (V3.alloc (.cells #[.int .i32 (p + (v1 : Int)), .int .i64 (v2 : Int), .int .i64 ((n : Int) - (v3 : Int))] 63)).grownBy W' (Value.slice vd vn vc).ownBlock := by rw [← hV4]; exact hgr
          obtain ⟨hRW, hc2, hfz⟩ := HV3.arc hrb HAP.out.1 HAP.out.2.2.2.1 ho' hgr'
          obtain ⟨vd2, vn2, vc2, hvv2⟩ : ∃ vd vn vc, v' = .slice vd vn vc := by
            obtain ⟨ad, cap, e, _⟩ := GOwn.shape ho'
            exact ⟨_, _, _, e⟩
          subst hvv2
          have hS4 : V4.cell? ⟨sb, 2, none⟩ = some (.slice vd vn vc) := (hb4.cell (p := ⟨sb, 2, none⟩) (Array.getElem?_eq_some_iff.1 HV3.box).1).trans hS3
          obtain ⟨W5, hW5⟩ : ∃ W5, W5 = W'.setCell ⟨sb, 2, none⟩ (.slice vd2 vn2 vc2) := ⟨_, rfl⟩
          have HX : Hid (x = ⟨p + ((rU st2 (1114111 - p).toNat).1 : Int), ((rU (rU st2 (1114111 - p).toNat).2 1048576).1 : Int), (n : Int) - ((rU (rU (rU st2 (1114111 - p).toNat).2 1048576).2 n).1 : Int)⟩) := by show _ = _; rw [hx, ← HE1.out, ← HE2.out, hve3]; rfl
          have HNX : Hid (RW rb w W5 qb sb fn oz (.slice vd2 vn2 vc2) (arcs ++ [x]) (rU (rU (rU st2 (1114111 - p).toNat).2 1048576).2 n).2) := by rw [hW5]; exact hRW
          have HRN : Hid (rdA n c 0 [] st1 = rdA n (c - (k + 1)) (p + (v1 : Int)) (arcs ++ [x]) (rU (rU (rU st2 (1114111 - p).toNat).2 1048576).2 n).2) := by show _ = _; rw [HRD.out, HX.out, ← HE1.out]
          have HLX : Hid ((arcs ++ [x]).length ≤ k + 1 ∧ ∀ a ∈ arcs ++ [x], ArcB n a) := by
            refine ⟨by have := HL.out.1; simp; omega, fun a ha => ?_⟩
            rcases List.mem_append.1 ha with ha | ha
            · exact HL.out.2 a ha
            · rw [List.mem_singleton.1 ha, hx]
              exact ⟨by simp only; omega, by simp only; omega, by simp only; omega, by simp only; omega, by simp only; omega, by simp only; omega⟩
          have HAP2 : Hid ((Builtin.append_ #[59, 59] 59 #[.slice vd vn vc, .slice (some ⟨V3.heap.size, 0, none⟩) 1 1]).run Tryz.prog V4 = .ok (.slice vd2 vn2 vc2) W') := hap
          clear hap ho' hgr hgr' hRW hn4 hb4 HV3 hr3 hb3 hve3 hx
          refine one_valueE (i := 12) (v := .slice (some ⟨V3.heap.size, 0, none⟩) 1 1) (w' := V4) 56 (by kernel_rfl) rfl rfl (by rfl) (by rw [hV4]; go_simp; first | done | exact rfl) hS4 ?_
          simp only [sZa, sZb, sZc]
          refine one_valueE (i := 13) (v := .slice vd2 vn2 vc2) (w' := W') 57 (by kernel_rfl) rfl rfl (by rfl) (exec_app HAP2.out) hc2 ?_
          simp only [sZa, sZb, sZc]
          refine one_valueE (i := 14) (v := .pointer (some ⟨sb, 2, none⟩)) (w' := W') 58 (by kernel_rfl) rfl rfl (by rfl) (by kernel_rfl) hc2 ?_
          simp only [sZa, sZb, sZc]
          refine last_skipE (w' := W5) (by kernel_rfl) rfl rfl (by rfl) (by rw [hW5]; go_simp; first | done | exact rfl) (by kernel_rfl) ?_
          clear hV4 hW5 hc2 hfz hS4 hS3 hS0 hw3 hw4
          go_wp2
          go_roundg (c - (k + 1))
          case measure => omega
          case rel => exact ⟨k + 1, _, _, _, _, by go_num, by omega, Nat.le_refl _, rfl, by omega, by omega, HNX, HRN, HLX⟩
        · have h1b : (st2.2 == 0) = false := beq_eq_false_iff_ne.2 he
          have HF : Hid (rdA n c 0 [] st1 = (arcs, st2)) := by
            show _ = _
            rw [HQ.out, show c - k = (c - k - 1) + 1 by omega, rdA, if_pos he]
          obtain ⟨f0, f1, f2, f3, g0, g1, g2, g3⟩ := HW.out.facts
          obtain ⟨vd, vn, vc, hvv⟩ : ∃ vd vn vc, va = .slice vd vn vc := by
            obtain ⟨ad, cap, e, _⟩ := GOwn.shape HW.out.row
            exact ⟨_, _, _, e⟩
          subst hvv
          go_wp2_with (go_at_call 46; refine HER.out.mono ?_; rintro e we ⟨rfl, hwe⟩; rw [hwe]; clear hwe we)
          try simp only [Exit.inBlock, Exit.then]
          obtain ⟨z0, z1, z2, z3, z4, z5⟩ := HW.out.fin hrb HAP.out.2.2.2.2
          refine bodyPost_ret (rs_results rfl z0 z1 z2) rfl ?_
          have hfin : rdS n st = (⟨fn, oz, arcs⟩, st2) := by rw [HRS.out, HRO.out, HCC.out, HDF.out, HF.out, HOZ.out.1]
          rw [hfin]
          exact ⟨_, rfl, z3, z4, z5, HL.out.2, by have := HL.out.1; simp only; omega, HOZ.out.2.2, HOZ.out.2.1⟩
      · have hltz : ¬ (k : Int) < (c : Int) := by omega
        have HF : Hid (rdA n c 0 [] st1 = (arcs, st2)) := by
          show _ = _
          rw [HQ.out, show c - k = 0 by omega, rdA]
        obtain ⟨f0, f1, f2, f3, g0, g1, g2, g3⟩ := HW.out.facts
        obtain ⟨vd, vn, vc, hvv⟩ : ∃ vd vn vc, va = .slice vd vn vc := by
          obtain ⟨ad, cap, e, _⟩ := GOwn.shape HW.out.row
          exact ⟨_, _, _, e⟩
        subst hvv
        go_wp2_with (go_at_call 46; refine HER.out.mono ?_; rintro e we ⟨rfl, hwe⟩; rw [hwe]; clear hwe we)
        try simp only [Exit.inBlock, Exit.then]
        obtain ⟨z0, z1, z2, z3, z4, z5⟩ := HW.out.fin hrb HAP.out.2.2.2.2
        refine bodyPost_ret (rs_results rfl z0 z1 z2) rfl ?_
        have hfin : rdS n st = (⟨fn, oz, arcs⟩, st2) := by rw [HRS.out, HRO.out, HCC.out, HDF.out, HF.out, HOZ.out.1]
        rw [hfin]
        exact ⟨_, rfl, z3, z4, z5, HL.out.2, by have := HL.out.1; simp only; omega, HOZ.out.2.2, HOZ.out.2.1⟩
  · have hpz : (hd : Int) % 2 = 0 := by omega
    obtain ⟨W1, hW1⟩ : ∃ W1, W1 = w1.alloc (.cells #[.bool false, .int .i64 0, .slice none 0 0] 61) := ⟨_, rfl⟩
    have HWa := HW.out false
    rw [← hW1] at HWa
    have HWA : Hid (RW rb w W1 qb sb false 0 (.slice none 0 0) [] (rU st 8193).2) := HWa
    clear HWa
    obtain ⟨f0, f1, f2, f3, g0, g1, g2, g3⟩ := HWA.out.facts
    go_upto_region 3 with fail
    rw [← hsb, ← hW1]
    clear hsb hW1
    go_upto_region 5 with fail
    have HRO : Hid (rdO hd (rU st 8193).2 = (0, (rU st 8193).2)) := by show _ = _; rw [rdO, if_neg hpar]
    clear f0 f1 f2 f3 g0 g1 g2 g3
    obtain ⟨fn, hfn⟩ : ∃ fn : Bool, fn = false := ⟨_, rfl⟩
    have HDF : Hid (decide (hd % 2 = 1) = fn) := by show _ = _; rw [hfn]; exact decide_eq_false hpar
    have HW1 : Hid (RW rb w W1 qb sb fn 0 (.slice none 0 0) [] (rU st 8193).2) := by rw [hfn]; exact HWA
    clear hfn
    obtain ⟨ot, hot⟩ : ∃ ot : Nat, ot = 0 := ⟨_, rfl⟩
    obtain ⟨oz, hoz⟩ : ∃ oz : Int, oz = 0 := ⟨_, rfl⟩
    have HOZ : Hid (oz = (ot : Int) ∧ oz ≤ 1048576 ∧ 0 ≤ oz) := ⟨by omega, by omega, by omega⟩
    rw [← hoz] at HW1
    rw [← hot] at HRO
    generalize (rU st 8193).2 = st1 at *
    clear hoz hot hpar hpz
    obtain ⟨c, hc⟩ : ∃ c, hd / 2 = c := ⟨_, rfl⟩
    have hcz : (hd : Int) / 2 = (c : Int) := by omega
    have HCC : Hid (hd / 2 = c) := hc
    have hcb : c ≤ 4096 := by omega
    go_wp2
    go_loopg [7, 8, 9] c (fun gm s7 s8 _ wr => ∃ (k : Nat) (p : Int) (va : Value) (arcs : List RArc) (st2 : Rs), s8 = .int .u64 k ∧ k ≤ c ∧ c - k ≤ gm ∧ s7 = .int .i32 p ∧ 0 ≤ p ∧ p ≤ 1114111 ∧ Hid (RW rb w wr qb sb fn oz va arcs st2) ∧ Hid (rdA n c 0 [] st1 = rdA n (c - k) p arcs st2) ∧ Hid (arcs.length ≤ k ∧ ∀ a ∈ arcs, ArcB n a))
    case atStart => exact ⟨0, 0, _, [], st1, rfl, Nat.zero_le _, by omega, rfl, by omega, by omega, HW1, rfl, ⟨Nat.le_refl _, fun a ha => by cases ha⟩⟩
    case round =>
      obtain ⟨k, p, va, arcs, st2, rfl, hk, hgm, rfl, hp0, hp1, HW, HQ, HL⟩ := hrel
      by_cases hlt : k < c
      · have hltz : (k : Int) < (c : Int) := by omega
        have HER : Hid (Calls Tryz.prog 46 #[.pointer (some ⟨rb, 0, none⟩)] wr fun x w' => x = .returned (.int .i64 st2.2) ∧ w' = wr) := Cd.Err_any rb _ _ wr HW.out.rd
        by_cases he : st2.2 = 0
        · have hv0 : k + 1 ≤ c := hlt
          have HRD : Hid (rdA n c 0 [] st1 = rdA n (c - (k + 1)) (p + (rU st2 (1114111 - p).toNat).1) (arcs ++ [⟨p + (rU st2 (1114111 - p).toNat).1, (rU (rU st2 (1114111 - p).toNat).2 1048576).1, n - (rU (rU (rU st2 (1114111 - p).toNat).2 1048576).2 n).1⟩]) (rU (rU (rU st2 (1114111 - p).toNat).2 1048576).2 n).2) := by
            show _ = _
            rw [HQ.out, show c - k = (c - (k + 1)) + 1 by omega, rdA, if_neg (fun hne => hne he)]
          rw [he] at HER
          go_upto_region 9 with (go_at_call 46; refine HER.out.mono ?_; rintro e we ⟨rfl, hwe⟩; rw [hwe]; clear hwe we)
          go_upto_region 10 with (go_at_call 45; refine (RdU rb st2 (1114111 - p) wr HW.out.rd (by omega)).mono ?_; rintro e V1 ⟨v1, rfl, hv1, hve1, hr1, hb1⟩; have HE1 : Hid (v1 = (rU st2 (1114111 - p).toNat).1) := hve1; have HV1 : Hid (RW rb w V1 qb sb fn oz va arcs (rU st2 (1114111 - p).toNat).2) := HW.out.read hrb HAP.out.2.2.1 HAP.out.2.1 hr1 hb1; clear hve1 hr1 hb1)
          go_upto_region 11 with (go_at_call 45; refine (RdU rb _ 1048576 V1 HV1.out.rd (by omega)).mono ?_; rintro e V2 ⟨v2, rfl, hv2, hve2, hr2, hb2⟩; have HE2 : Hid (v2 = (rU (rU st2 (1114111 - p).toNat).2 1048576).1) := hve2; have HV2 : Hid (RW rb w V2 qb sb fn oz va arcs (rU (rU st2 (1114111 - p).toNat).2 1048576).2) := HV1.out.read hrb HAP.out.2.2.1 HAP.out.2.1 hr2 hb2; clear hve2 hr2 hb2)
          obtain ⟨p2, hp2⟩ : ∃ p2, p2 = p + (v1 : Int) := ⟨_, rfl⟩
          have HVD := HV2.out.drew
          have hS0 : V2.drew.cell? ⟨sb, 2, none⟩ = some va := HVD.facts.2.2.1
          have HVDD : Hid (RW rb w V2.drew qb sb fn oz va arcs (rU (rU st2 (1114111 - p).toNat).2 1048576).2) := HVD
          have hnz0 : (0 : Int) ≤ (n : Int) := by omega
          have hwn : IntKind.u64.wrap (n : Int) = (n : Int) := by simp [IntKind.wrap, IntKind.bits, IntKind.signed]; omega
          obtain ⟨vd, vn, vc, hvv⟩ : ∃ vd vn vc, va = .slice vd vn vc := by
            obtain ⟨ad, cap, e, _⟩ := GOwn.shape HW.out.row
            exact ⟨_, _, _, e⟩
          subst hvv
          refine region_atE (S := fun W => W.cell? ⟨sb, 2, none⟩ = some (.slice vd vn vc)) 16 15 rfl mixedP ?_
          refine take_atE (i := 0) 44 rfl rfl (by kernel_rfl) (by kernel_rfl) (by kernel_rfl) (by kernel_rfl) (fun _ _ _ h => h) (by rfl) (fun _ s => by (have h := id s; clear s; go_simp; first | done | exact rfl)) (by assumption) ?_
          simp only [sZa, sZb, sZc]
          refine take_atE (i := 1) 45 rfl rfl (by kernel_rfl) (by kernel_rfl) (by kernel_rfl) (by kernel_rfl) (fun _ _ _ h => h) (by rfl) (fun _ s => by (have h := id s; clear s; go_simp; first | done | exact rfl)) (by assumption) ?_
          simp only [sZa, sZb, sZc]
          refine take_atE (i := 2) 46 rfl rfl (by kernel_rfl) (by kernel_rfl) (by kernel_rfl) (by kernel_rfl) (fun _ _ _ h => h) (by rfl) (fun _ s => by (have h := id s; clear s; go_simp; first | done | exact rfl)) (by assumption) ?_
          simp only [sZa, sZb, sZc]
          refine take_atE (i := 3) 47 rfl rfl (by kernel_rfl) (by kernel_rfl) (by kernel_rfl) (by kernel_rfl) (fun _ _ _ h => h) (by rfl) (fun _ s => by (have h := id s; clear s; go_simp; first | done | exact rfl)) (by assumption) ?_
          simp only [sZa, sZb, sZc]
          refine take_atE (i := 4) 48 rfl rfl (by kernel_rfl) (by kernel_rfl) (by kernel_rfl) (by kernel_rfl) (fun _ _ _ h => h) (by rfl) (fun _ s => by (have h := id s; clear s; go_simp; first | done | exact rfl)) (by assumption) ?_
          simp only [sZa, sZb, sZc]
          refine take_atE (i := 5) 49 rfl rfl (by kernel_rfl) (by kernel_rfl) (by kernel_rfl) (by kernel_rfl) (fun _ _ _ h => h) (by rfl) (fun _ s => by (have h := id s; clear s; go_simp; first | done | exact rfl)) (by assumption) ?_
          simp only [sZa, sZb, sZc]
          refine take_atE (i := 6) 50 rfl rfl (by kernel_rfl) (by kernel_rfl) (by kernel_rfl) (by kernel_rfl) (fun _ _ _ h => h) (by rfl) (fun _ s => by (have h := id s; clear s; go_simp; first | done | exact rfl)) (by assumption) ?_
          simp only [sZa, sZb, sZc]
          refine take_atE (i := 7) (v := .int .u64 (n : Int)) 51 rfl rfl (by kernel_rfl) (by kernel_rfl) (by kernel_rfl) (by kernel_rfl) (fun _ _ _ h => h) (by rfl) (fun _ s => by (have h := id s; clear s; go_simp; first | done | exact rfl | simp_all | (simp; omega))) (by assumption) ?_
          simp only [sZa, sZb, sZc]
          refine one_callE (i := 8) (w0 := V2.drew) 52 45 #[.pointer (some ⟨rb, 0, none⟩), .int .u64 (n : Int)] (by kernel_rfl) rfl rfl (by rfl) (by kernel_rfl) ?_
          refine (RdU rb _ (n : Int) V2.drew HVDD.out.rd hnz0).mono ?_
          rintro e V3 ⟨v3, rfl, hv3, hve3, hr3, hb3⟩
          have HV3 := HVDD.out.read hrb HAP.out.2.2.1 HAP.out.2.1 hr3 hb3
          have hS3 : V3.cell? ⟨sb, 2, none⟩ = some (.slice vd vn vc) := HV3.facts.2.2.1
          refine ⟨_, rfl, hS3, ?_⟩
          simp only [sZa, sZb, sZc]
          have hw3 : IntKind.i64.wrap (v3 : Int) = (v3 : Int) := by rw [IntKind.wrap_i64]; omega
          have hw4 : IntKind.i64.wrap ((n : Int) - (v3 : Int)) = (n : Int) - (v3 : Int) := by rw [IntKind.wrap_i64]; omega
          refine take_atE (i := 9) (v := .int .i64 (v3 : Int)) 53 rfl rfl (by kernel_rfl) (by kernel_rfl) (by kernel_rfl) (by kernel_rfl) (fun _ _ _ h => h) (by rfl) (fun _ s => by (have h := id s; clear s; go_simp; first | done | exact rfl | simp_all | (simp; omega))) (by assumption) ?_
          simp only [sZa, sZb, sZc]
          refine take_atE (i := 10) (v := .int .i64 ((n : Int) - (v3 : Int))) 54 rfl rfl (by kernel_rfl) (by kernel_rfl) (by kernel_rfl) (by kernel_rfl) (fun _ _ _ h => h) (by rfl) (fun _ s => by (have h := id s; clear s; go_simp; first | done | exact rfl | simp_all | (simp; omega))) (by assumption) ?_
          simp only [sZa, sZb, sZc]
          refine take_atE (i := 11) (v := .agg #[.int .i32 (p + (v1 : Int)), .int .i64 (v2 : Int), .int .i64 ((n : Int) - (v3 : Int))]) 55 rfl rfl (by kernel_rfl) (by kernel_rfl) (by kernel_rfl) (by kernel_rfl) (fun _ _ _ h => h) (by rfl) (fun _ s => by (have h := id s; clear s; go_simp; first | done | exact rfl | simp_all | (simp; omega))) (by assumption) ?_
          simp only [sZa, sZb, sZc]
          obtain ⟨x, hx⟩ : ∃ x : RArc, x = ⟨p + (v1 : Int), (v2 : Int), (n : Int) - (v3 : Int)⟩ := ⟨_, rfl⟩
          obtain ⟨V4, hV4⟩ : ∃ V4, V4 = V3.alloc (.cells #[.int .i32 (p + (v1 : Int)), .int .i64 (v2 : Int), .int .i64 ((n : Int) - (v3 : Int))] 63) := ⟨_, rfl⟩
          have hb4 : Below V3.heap.size V3 V4 := by rw [hV4]; exact (Below.refl _ V3).alloc (Nat.le_refl _) _
          have hn4 : V4.heap[V3.heap.size]? = some (.cells #[.int .i32 (p + (v1 : Int)), .int .i64 (v2 : Int), .int .i64 ((n : Int) - (v3 : Int))] 63) := by rw [hV4]; exact alloc_newP _ _
          have hwV : w.heap.size ≤ V3.heap.size := HV3.but.size
          obtain ⟨v', W', hap, ho', hgr, _⟩ := gappend_run rtyA (GOwn.below HV3.row hb4) (Nat.le_trans hwV hb4.size) (x := cellsRA x) ⟨rfl, by simp [cellsRA, Value.oneCell']⟩ (nb := V3.heap.size) (fun j u hj => by simp only [World.cell?, hn4]; rw [hx] at hj; simpa [cellsRA] using hj) (by rw [List.length_map]; have := HL.out.1; omega) 59 1
          have hgr' : (V3.alloc (.cells #[.int .i32 (p + (v1 : Int)), .int .i64 (v2 : Int), .int .i64 ((n : Int) - (v3 : Int))] 63)).grownBy W' (Value.slice vd vn vc).ownBlock := by rw [← hV4]; exact hgr
          obtain ⟨hRW, hc2, hfz⟩ := HV3.arc hrb HAP.out.1 HAP.out.2.2.2.1 ho' hgr'
          obtain ⟨vd2, vn2, vc2, hvv2⟩ : ∃ vd vn vc, v' = .slice vd vn vc := by
            obtain ⟨ad, cap, e, _⟩ := GOwn.shape ho'
            exact ⟨_, _, _, e⟩
          subst hvv2
          have hS4 : V4.cell? ⟨sb, 2, none⟩ = some (.slice vd vn vc) := (hb4.cell (p := ⟨sb, 2, none⟩) (Array.getElem?_eq_some_iff.1 HV3.box).1).trans hS3
          obtain ⟨W5, hW5⟩ : ∃ W5, W5 = W'.setCell ⟨sb, 2, none⟩ (.slice vd2 vn2 vc2) := ⟨_, rfl⟩
          have HX : Hid (x = ⟨p + ((rU st2 (1114111 - p).toNat).1 : Int), ((rU (rU st2 (1114111 - p).toNat).2 1048576).1 : Int), (n : Int) - ((rU (rU (rU st2 (1114111 - p).toNat).2 1048576).2 n).1 : Int)⟩) := by show _ = _; rw [hx, ← HE1.out, ← HE2.out, hve3]; rfl
          have HNX : Hid (RW rb w W5 qb sb fn oz (.slice vd2 vn2 vc2) (arcs ++ [x]) (rU (rU (rU st2 (1114111 - p).toNat).2 1048576).2 n).2) := by rw [hW5]; exact hRW
          have HRN : Hid (rdA n c 0 [] st1 = rdA n (c - (k + 1)) (p + (v1 : Int)) (arcs ++ [x]) (rU (rU (rU st2 (1114111 - p).toNat).2 1048576).2 n).2) := by show _ = _; rw [HRD.out, HX.out, ← HE1.out]
          have HLX : Hid ((arcs ++ [x]).length ≤ k + 1 ∧ ∀ a ∈ arcs ++ [x], ArcB n a) := by
            refine ⟨by have := HL.out.1; simp; omega, fun a ha => ?_⟩
            rcases List.mem_append.1 ha with ha | ha
            · exact HL.out.2 a ha
            · rw [List.mem_singleton.1 ha, hx]
              exact ⟨by simp only; omega, by simp only; omega, by simp only; omega, by simp only; omega, by simp only; omega, by simp only; omega⟩
          have HAP2 : Hid ((Builtin.append_ #[59, 59] 59 #[.slice vd vn vc, .slice (some ⟨V3.heap.size, 0, none⟩) 1 1]).run Tryz.prog V4 = .ok (.slice vd2 vn2 vc2) W') := hap
          clear hap ho' hgr hgr' hRW hn4 hb4 HV3 hr3 hb3 hve3 hx
          refine one_valueE (i := 12) (v := .slice (some ⟨V3.heap.size, 0, none⟩) 1 1) (w' := V4) 56 (by kernel_rfl) rfl rfl (by rfl) (by rw [hV4]; go_simp; first | done | exact rfl) hS4 ?_
          simp only [sZa, sZb, sZc]
          refine one_valueE (i := 13) (v := .slice vd2 vn2 vc2) (w' := W') 57 (by kernel_rfl) rfl rfl (by rfl) (exec_app HAP2.out) hc2 ?_
          simp only [sZa, sZb, sZc]
          refine one_valueE (i := 14) (v := .pointer (some ⟨sb, 2, none⟩)) (w' := W') 58 (by kernel_rfl) rfl rfl (by rfl) (by kernel_rfl) hc2 ?_
          simp only [sZa, sZb, sZc]
          refine last_skipE (w' := W5) (by kernel_rfl) rfl rfl (by rfl) (by rw [hW5]; go_simp; first | done | exact rfl) (by kernel_rfl) ?_
          clear hV4 hW5 hc2 hfz hS4 hS3 hS0 hw3 hw4
          go_wp2
          go_roundg (c - (k + 1))
          case measure => omega
          case rel => exact ⟨k + 1, _, _, _, _, by go_num, by omega, Nat.le_refl _, rfl, by omega, by omega, HNX, HRN, HLX⟩
        · have h1b : (st2.2 == 0) = false := beq_eq_false_iff_ne.2 he
          have HF : Hid (rdA n c 0 [] st1 = (arcs, st2)) := by
            show _ = _
            rw [HQ.out, show c - k = (c - k - 1) + 1 by omega, rdA, if_pos he]
          obtain ⟨f0, f1, f2, f3, g0, g1, g2, g3⟩ := HW.out.facts
          obtain ⟨vd, vn, vc, hvv⟩ : ∃ vd vn vc, va = .slice vd vn vc := by
            obtain ⟨ad, cap, e, _⟩ := GOwn.shape HW.out.row
            exact ⟨_, _, _, e⟩
          subst hvv
          go_wp2_with (go_at_call 46; refine HER.out.mono ?_; rintro e we ⟨rfl, hwe⟩; rw [hwe]; clear hwe we)
          try simp only [Exit.inBlock, Exit.then]
          obtain ⟨z0, z1, z2, z3, z4, z5⟩ := HW.out.fin hrb HAP.out.2.2.2.2
          refine bodyPost_ret (rs_results rfl z0 z1 z2) rfl ?_
          have hfin : rdS n st = (⟨fn, oz, arcs⟩, st2) := by rw [HRS.out, HRO.out, HCC.out, HDF.out, HF.out, HOZ.out.1]
          rw [hfin]
          exact ⟨_, rfl, z3, z4, z5, HL.out.2, by have := HL.out.1; simp only; omega, HOZ.out.2.2, HOZ.out.2.1⟩
      · have hltz : ¬ (k : Int) < (c : Int) := by omega
        have HF : Hid (rdA n c 0 [] st1 = (arcs, st2)) := by
          show _ = _
          rw [HQ.out, show c - k = 0 by omega, rdA]
        obtain ⟨f0, f1, f2, f3, g0, g1, g2, g3⟩ := HW.out.facts
        obtain ⟨vd, vn, vc, hvv⟩ : ∃ vd vn vc, va = .slice vd vn vc := by
          obtain ⟨ad, cap, e, _⟩ := GOwn.shape HW.out.row
          exact ⟨_, _, _, e⟩
        subst hvv
        go_wp2_with (go_at_call 46; refine HER.out.mono ?_; rintro e we ⟨rfl, hwe⟩; rw [hwe]; clear hwe we)
        try simp only [Exit.inBlock, Exit.then]
        obtain ⟨z0, z1, z2, z3, z4, z5⟩ := HW.out.fin hrb HAP.out.2.2.2.2
        refine bodyPost_ret (rs_results rfl z0 z1 z2) rfl ?_
        have hfin : rdS n st = (⟨fn, oz, arcs⟩, st2) := by rw [HRS.out, HRO.out, HCC.out, HDF.out, HF.out, HOZ.out.1]
        rw [hfin]
        exact ⟨_, rfl, z3, z4, z5, HL.out.2, by have := HL.out.1; simp only; omega, HOZ.out.2.2, HOZ.out.2.1⟩
end Go.Proofs.YtllmdfkiogmofaaGreatDoor

/- readMachine. -/
namespace Go.Proofs.YtllmdfkiogmofaaGreatDoor
open Go.RowKit Nums Fm Pk
set_option maxRecDepth 100000

/-- States that a call has made. -/
structure MRow (B : Nat) (W : World) (vs : Value) (m : List RSt) : Prop where
  ex : ∃ xss, GOwn 61 3 B W vs xss ∧ xss.length = m.length ∧ ∀ (i : Nat) (s : RSt), m[i]? = some s → ∃ va, xss[i]? = some [.bool s.final, .int .i64 s.out, va] ∧ GOwn 63 3 B W va (s.arcs.map cellsRA)
theorem MRow.nil (B : Nat) (W : World) : MRow B W (.slice none 0 0) [] := ⟨[], GOwn.nil _ _ _ _, rfl, fun i s hi => by simp at hi⟩
theorem MRow.same {B : Nat} {W W' : World} {vs : Value} {m : List RSt} (h : MRow B W vs m) (h1 : ∀ (j : Nat) (cur : Array Value), B ≤ j → W.heap[j]? = some (Obj.cells cur 61 (0, 0)) → vs.ownBlock = some j → W'.heap[j]? = W.heap[j]?) (h2 : ∀ (j : Nat) (cur : Array Value), B ≤ j → W.heap[j]? = some (Obj.cells cur 63 (0, 0)) → W'.heap[j]? = W.heap[j]?) : MRow B W' vs m := by
  obtain ⟨xss, a1, a2, a3⟩ := h.ex
  refine ⟨xss, a1.same fun g hg => (by obtain ⟨hb, cur, hc⟩ := a1.block hg; exact h1 g cur hb hc hg), a2, fun i s hi => ?_⟩
  obtain ⟨va, e1, e2⟩ := a3 i s hi
  exact ⟨va, e1, e2.same fun g hg => (by obtain ⟨hb, cur, hc⟩ := e2.block hg; exact h2 g cur hb hc)⟩
theorem MRow.below {B : Nat} {W W' : World} {vs : Value} {m : List RSt} (h : MRow B W vs m) (hb : Below W.heap.size W W') : MRow B W' vs m := h.same (fun j _ _ hj _ => hb.block j (Array.getElem?_eq_some_iff.1 hj).1) (fun j _ _ hj => hb.block j (Array.getElem?_eq_some_iff.1 hj).1)
theorem MRow.shape {B : Nat} {W : World} {vs : Value} {m : List RSt} (h : MRow B W vs m) : ∃ ad cap, vs = .slice ad m.length cap := by
  obtain ⟨xss, a1, a2, _⟩ := h.ex
  obtain ⟨ad, cap, e, _⟩ := a1.shape
  exact ⟨ad, cap, by rw [e, a2]⟩
/-- Bounds of what was read. -/
def MB (m : List RSt) : Prop := ∀ (i : Nat) (s : RSt), m[i]? = some s → (∀ a ∈ s.arcs, ArcB i a) ∧ s.arcs.length ≤ 4096 ∧ 0 ≤ s.out ∧ s.out ≤ 1048576
theorem MRow.sts {B : Nat} {W : World} {vs : Value} {m : List RSt} (h : MRow B W vs m) (hm : MB m) (hl : m.length ≤ 1048576) : StsAt W.heap.size W vs m := by
  obtain ⟨xss, a1, a2, a3⟩ := h.ex
  refine ⟨⟨xss, a1.reads, a2, fun i s hi => ?_⟩, fun s hs => ?_, by omega⟩
  · obtain ⟨va, e1, e2⟩ := a3 i s hi
    have hil := (List.getElem?_eq_some_iff.1 hi).1
    refine ⟨va, e1, e2.reads, fun a ha => ?_, by have := (hm i s hi).2.1; omega⟩
    obtain ⟨p1, p2, p3, p4, p5, p6⟩ := (hm i s hi).1 a ha
    simp only [OkRA, Fits32, Fits64]
    omega
  · obtain ⟨i, hi, rfl⟩ := List.getElem_of_mem hs
    have := hm i _ (List.getElem?_eq_getElem hi)
    simp only [Fits64]
    omega
/-- While a machine is read. -/
structure MW (rb : Nat) (w W : World) (qb mb : Nat) (base : Int) (vs : Value) (m : List RSt) (st : Rs) : Prop where
  but : Cd.But rb w W
  rd : Cd.Rd W rb st.1 st.2
  res : W.heap[qb]? = some (.cells #[.int .i64 0, .slice none 0 0] 26)
  box : W.heap[mb]? = some (.cells #[.int .i64 base, vs] 26)
  row : MRow w.heap.size W vs m
theorem MW.read {rb : Nat} {w W W' : World} {qb mb : Nat} {base : Int} {vs : Value} {m : List RSt} {st st' : Rs} (h : MW rb w W qb mb base vs m st) (hrb : rb < w.heap.size) (hq : qb ≠ rb) (hs : mb ≠ rb) (h1 : Cd.Rd W' rb st'.1 st'.2) (h2 : Cd.But rb W W') : MW rb w W' qb mb base vs m st' :=
  ⟨h.but.trans h2, h1, (h2.lt (Array.getElem?_eq_some_iff.1 h.res).1 hq).trans h.res, (h2.lt (Array.getElem?_eq_some_iff.1 h.box).1 hs).trans h.box, h.row.same (fun j _ hj hc _ => h2.lt (Array.getElem?_eq_some_iff.1 hc).1 (by omega)) (fun j _ hj hc => h2.lt (Array.getElem?_eq_some_iff.1 hc).1 (by omega))⟩
theorem MW.facts {rb : Nat} {w W : World} {qb mb : Nat} {base : Int} {vs : Value} {m : List RSt} {st : Rs} (h : MW rb w W qb mb base vs m st) : W.cell? ⟨mb, 0, none⟩ = some (.int .i64 base) ∧ W.cell? ⟨mb, 1, none⟩ = some vs ∧ (∀ o, W.frozen? ⟨mb, o, none⟩ = false) ∧ W.cell? ⟨qb, 0, none⟩ = some (.int .i64 0) ∧ W.cell? ⟨qb, 1, none⟩ = some (.slice none 0 0) ∧ (∀ o, W.frozen? ⟨qb, o, none⟩ = false) :=
  ⟨by simp [World.cell?, h.box], by simp [World.cell?, h.box], fun o => by simp [World.frozen?, h.box], by simp [World.cell?, h.res], by simp [World.cell?, h.res], fun o => by simp [World.frozen?, h.res]⟩
theorem MW.drew {rb : Nat} {w W : World} {qb mb : Nat} {base : Int} {vs : Value} {m : List RSt} {st : Rs} (h : MW rb w W qb mb base vs m st) : MW rb w W.drew qb mb base vs m st :=
  ⟨h.but.drew, h.rd.but ((Below.refl _ W).drew), h.res, h.box, h.row.below ((Below.refl _ W).drew)⟩
/-- One state more. -/
theorem MW.state {rb : Nat} {w W W' : World} {qb mb : Nat} {base : Int} {vs vs' va : Value} {m : List RSt} {st : Rs} {s : RSt} {o : Obj} {xss : List (List Value)} (h : MW rb w W qb mb base vs m st) (hrb : rb < w.heap.size) (hqm : qb ≠ mb) (hmb : w.heap.size ≤ mb)
    (hX : GOwn 61 3 w.heap.size W vs xss) (hxl : xss.length = m.length) (hxe : ∀ (i : Nat) (s : RSt), m[i]? = some s → ∃ va, xss[i]? = some [.bool s.final, .int .i64 s.out, va] ∧ GOwn 63 3 w.heap.size W va (s.arcs.map cellsRA)) (ha : GOwn 63 3 w.heap.size W va (s.arcs.map cellsRA))
    (ho : GOwn 61 3 w.heap.size W' vs' (xss ++ [[.bool s.final, .int .i64 s.out, va]])) (hg : (W.alloc o).grownBy W' vs.ownBlock) : MW rb w (W'.setCell ⟨mb, 1, none⟩ vs') qb mb base vs' (m ++ [s]) st ∧ W'.cell? ⟨mb, 1, none⟩ = some vs ∧ ∀ c, W'.frozen? ⟨mb, c, none⟩ = false := by
  have hA : ∀ j, j < W.heap.size → (W.alloc o).heap[j]? = W.heap[j]? := fun j hj => (MapKept.heap_alloc _ _).2 j hj
  have hty : ∀ (j : Nat) (cur : Array Value) (T : TypeId) , W.heap[j]? = some (Obj.cells cur T (0, 0)) → T ≠ 61 → W'.heap[j]? = W.heap[j]? := fun j cur T hj hT => by
    have hjl := (Array.getElem?_eq_some_iff.1 hj).1
    refine (hg.block j (by simp; omega) (fun e => ?_)).trans (hA j hjl)
    obtain ⟨_, c2, hc2⟩ := GOwn.block hX e.symm
    rw [hj] at hc2
    simp only [Option.some.injEq, Obj.cells.injEq] at hc2
    exact hT hc2.2.1
  have hlow : ∀ j, j < w.heap.size → W'.heap[j]? = W.heap[j]? := fun j hj => by
    refine (hg.block j (by have := h.but.size; simp; omega) (fun e => ?_)).trans (hA j (by have := h.but.size; omega))
    have := (GOwn.block hX e.symm).1
    omega
  have hbx := (hty mb _ _ h.box (by decide)).trans h.box
  have hrs := set_rest W' mb 1 vs'
  have hsz : W.heap.size ≤ W'.heap.size := Nat.le_trans (by simp) hg.size
  obtain ⟨v, r1, r2, r3⟩ := h.rd
  have hne : ∀ (j : Nat) (cur : Array Value) (T : TypeId), W'.heap[j]? = some (Obj.cells cur T (0, 0)) → T ≠ 26 → j ≠ mb := fun j cur T hj hT e => by
    rw [e, hbx] at hj
    simp only [Option.some.injEq, Obj.cells.injEq] at hj
    exact hT hj.2.1.symm
  have harc : ∀ {u l}, GOwn 63 3 w.heap.size W u l → GOwn 63 3 w.heap.size (W'.setCell ⟨mb, 1, none⟩ vs') u l := fun hu => GOwn.same hu fun g hg2 => (by
    obtain ⟨_, cur, hc⟩ := GOwn.block hu hg2
    have e1 := hty g cur _ hc (by decide)
    exact (set_other _ _ _ _ (hne g cur _ (e1.trans hc) (by decide))).trans e1)
  refine ⟨⟨?_, ?_, (set_other _ _ _ _ hqm).trans ((hty qb _ _ h.res (by decide)).trans h.res), by rw [set_at hbx]; rfl, ⟨xss ++ [[.bool s.final, .int .i64 s.out, va]], GOwn.same ho fun g hg2 => ?_, by simp [hxl], fun i t hi => ?_⟩⟩, by simp [World.cell?, hbx], fun c => by simp [World.frozen?, hbx]⟩
  · exact ⟨hrs.1.trans (hg.os.trans h.but.os), hrs.2.1.trans (hg.tape.trans h.but.tape), hrs.2.2.1.trans (hg.output.trans h.but.output), by rw [hrs.2.2.2]; exact Nat.le_trans h.but.size hsz, fun j hj hn => (set_other _ _ _ _ (by omega)).trans ((hlow j hj).trans (h.but.block j hj hn))⟩
  · have e1 : ∀ j, j ≤ rb → (W'.setCell ⟨mb, 1, none⟩ vs').heap[j]? = W.heap[j]? := fun j hj => (set_other _ _ _ _ (by omega)).trans (hlow j (by omega))
    refine ⟨v, (e1 rb (Nat.le_refl _)).trans r1, r2.below ⟨hrs.1.trans hg.os, hrs.2.1.trans hg.tape, hrs.2.2.1.trans hg.output, by rw [hrs.2.2.2]; exact hsz, fun j hj => e1 j (Nat.le_of_lt hj)⟩, r3⟩
  · obtain ⟨_, cur, hc⟩ := GOwn.block ho hg2
    exact set_other _ _ _ _ (hne g cur _ hc (by decide))
  · by_cases hi2 : i < m.length
    · rw [List.getElem?_append_left hi2] at hi
      obtain ⟨u, g1, g2⟩ := hxe i t hi
      exact ⟨u, by rw [List.getElem?_append_left (by omega)]; exact g1, harc g2⟩
    · have hi3 : i = m.length := by
        have := (List.getElem?_eq_some_iff.1 hi).1
        simp at this
        omega
      subst hi3
      rw [List.getElem?_append_right (Nat.le_refl _)] at hi
      simp at hi
      subst hi
      exact ⟨va, by rw [List.getElem?_append_right (by omega), hxl]; simp, harc ha⟩
theorem MW.fin {rb : Nat} {w W : World} {qb mb : Nat} {base : Int} {vs : Value} {m : List RSt} {st : Rs} (h : MW rb w W qb mb base vs m st) (hrb : rb < w.heap.size) (hq : w.heap.size ≤ qb) :
    ((W.setCell ⟨qb, 0, none⟩ (.int .i64 base)).setCell ⟨qb, 1, none⟩ vs).cell? ⟨qb, 0, none⟩ = some (.int .i64 base) ∧ ((W.setCell ⟨qb, 0, none⟩ (.int .i64 base)).setCell ⟨qb, 1, none⟩ vs).cell? ⟨qb, 1, none⟩ = some vs ∧ MRow w.heap.size ((W.setCell ⟨qb, 0, none⟩ (.int .i64 base)).setCell ⟨qb, 1, none⟩ vs) vs m ∧ Cd.Rd ((W.setCell ⟨qb, 0, none⟩ (.int .i64 base)).setCell ⟨qb, 1, none⟩ vs) rb st.1 st.2 ∧ Cd.But rb w ((W.setCell ⟨qb, 0, none⟩ (.int .i64 base)).setCell ⟨qb, 1, none⟩ vs) := by
  have hb3 : ((W.setCell ⟨qb, 0, none⟩ (.int .i64 base)).setCell ⟨qb, 1, none⟩ vs).heap[qb]? = some (.cells #[.int .i64 base, vs] 26) := by
    rw [set_at (set_at h.res (.int .i64 base)) vs]
    rfl
  have he : ∀ j, j ≠ qb → ((W.setCell ⟨qb, 0, none⟩ (.int .i64 base)).setCell ⟨qb, 1, none⟩ vs).heap[j]? = W.heap[j]? := fun j hj => (set_other _ _ _ _ hj).trans (set_other _ _ _ _ hj)
  have hbl : Below w.heap.size W ((W.setCell ⟨qb, 0, none⟩ (.int .i64 base)).setCell ⟨qb, 1, none⟩ vs) := ((Below.refl _ W).setCell (p := ⟨qb, 0, none⟩) hq _).setCell (p := ⟨qb, 1, none⟩) hq _
  have hne : ∀ (j : Nat) (cur : Array Value) (T : TypeId), W.heap[j]? = some (Obj.cells cur T (0, 0)) → T ≠ 26 → j ≠ qb := fun j cur T hj hT e => by
    rw [e, h.res] at hj
    simp only [Option.some.injEq, Obj.cells.injEq] at hj
    exact hT hj.2.1.symm
  obtain ⟨v, r1, r2, r3⟩ := h.rd
  exact ⟨by simp [World.cell?, hb3], by simp [World.cell?, hb3], h.row.same (fun j cur _ hc _ => he j (hne j cur _ hc (by decide))) (fun j cur _ hc => he j (hne j cur _ hc (by decide))), ⟨v, (he rb (by omega)).trans r1, r2.below (hbl.mono (by omega)), r3⟩, ⟨hbl.os.trans h.but.os, hbl.tape.trans h.but.tape, hbl.output.trans h.but.output, Nat.le_trans h.but.size hbl.size, fun j hj hn => (hbl.block j hj).trans (h.but.block j hj hn)⟩⟩
end Go.Proofs.YtllmdfkiogmofaaGreatDoor

/- readMachine: its walk. -/
namespace Go.Proofs.YtllmdfkiogmofaaGreatDoor
open Go.RowKit Nums Fm Pk
set_option maxRecDepth 100000

theorem rm_results {tmps : Array Value} {w : World} {qb : Nat} {a b : Value} (h2 : tmps.getD 2 undef = .pointer (some ⟨qb, 0, none⟩)) (c0 : w.cell? ⟨qb, 0, none⟩ = some a) (c1 : w.cell? ⟨qb, 1, none⟩ = some b) : (results Tryz.f20 tmps).run Tryz.prog w = .ok (.agg #[a, b]) w := by
  have h2' : tmps[2]?.getD undef = .pointer (some ⟨qb, 0, none⟩) := by simpa using h2
  simp [results, Tryz.results20, go_sem, h2', c0, c1]
/-- What readMachine says. -/
structure ReadSays (rb : Nat) (w w' : World) (xs : List Nat) (vs : Value) : Prop where
  row : MRow w.heap.size w' vs (rdAll xs).2.1
  rd : Cd.Rd w' rb (rdAll xs).2.2.1 (rdAll xs).2.2.2
  but : Cd.But rb w w'
  mb : MB (rdAll xs).2.1
  len : (rdAll xs).2.1.length ≤ 98305
  base : (rdAll xs).1 ≤ 1048576
set_option maxHeartbeats 4000000 in
theorem readMachine_any (rb : Nat) (w : World) (xs : List Nat) (h : Cd.Rd w rb xs 0) :
    Calls Tryz.prog 20 #[.pointer (some ⟨rb, 0, none⟩)] w fun e w' => ∃ vs, e = .returned (.agg #[.int .i64 ((rdAll xs).1 : Int), vs]) ∧ ReadSays rb w w' xs vs := by
  have hrb : rb < w.heap.size := by obtain ⟨_, h1, _⟩ := h; exact (Array.getElem?_eq_some_iff.1 h1).1
  obtain ⟨qb, hqb⟩ : ∃ qb, qb = w.heap.size := ⟨_, rfl⟩
  obtain ⟨W0, hW0⟩ : ∃ W0, W0 = w.alloc (.cells #[.int .i64 0, .slice none 0 0] 26) := ⟨_, rfl⟩
  have hb0 : Below w.heap.size w W0 := by rw [hW0]; exact (Below.refl _ w).alloc (Nat.le_refl _) _
  have hq0 : W0.heap[qb]? = some (.cells #[.int .i64 0, .slice none 0 0] 26) := by rw [hW0, hqb]; exact alloc_newP _ _
  have HR0 : Hid (Cd.Rd W0 rb xs 0) := h.but hb0
  have HB0 : Hid (Below w.heap.size w W0) := hb0
  have HQ0 : Hid (W0.heap[qb]? = some (.cells #[.int .i64 0, .slice none 0 0] 26)) := hq0
  clear h hb0 hq0
  go_enter Tryz.func20, Tryz.ntmps20
  go_upto_region 1 with fail
  rw [← hW0, ← hqb]
  have HQB : Hid (qb = w.heap.size) := hqb
  clear hW0 hqb
  go_upto_region 2 with (go_at_call 45; refine (RdU rb (xs, 0) 1048576 W0 HR0.out (by omega)).mono ?_; rintro e w1 ⟨bs, rfl, hbs, hbe, hr1, hbt1⟩; have HBE : Hid (bs = (rU (xs, 0) 1048576).1) := hbe; clear hbe)
  have hr1 : Cd.Rd w1 rb (rU (xs, 0) 1048576).2.1 (rU (xs, 0) 1048576).2.2 := hr1
  have hqb := HQB.out
  obtain ⟨mb, hmb⟩ : ∃ mb, mb = w1.heap.size := ⟨_, rfl⟩
  have hq1 := (hbt1.lt (Array.getElem?_eq_some_iff.1 HQ0.out).1 (by omega)).trans HQ0.out
  have hqm : qb ≠ mb := by have := (Array.getElem?_eq_some_iff.1 hq1).1; omega
  have hmw : w.heap.size ≤ mb := by have := hbt1.size; have := HB0.out.size; omega
  have HAP : Hid (qb ≠ mb ∧ mb ≠ rb ∧ qb ≠ rb ∧ w.heap.size ≤ mb ∧ w.heap.size ≤ qb) := ⟨hqm, by omega, by omega, hmw, by omega⟩
  obtain ⟨W1, hW1⟩ : ∃ W1, W1 = w1.alloc (.cells #[.int .i64 (bs : Int), .slice none 0 0] 26) := ⟨_, rfl⟩
  have HWA : Hid (MW rb w W1 qb mb (bs : Int) (.slice none 0 0) [] (rU (xs, 0) 1048576).2) := by
    have hbl : Below w1.heap.size w1 W1 := by rw [hW1]; exact (Below.refl _ w1).alloc (Nat.le_refl _) _
    exact ⟨((Cd.But.of_below HB0.out).trans hbt1).trans (Cd.But.of_below hbl), hr1.but hbl, (hbl.block qb (Array.getElem?_eq_some_iff.1 hq1).1).trans hq1, by rw [hW1, hmb]; exact alloc_newP _ _, MRow.nil _ _⟩
  rw [← hmb, ← hW1]
  clear hmb hW1 hr1 hbt1 hq1 hqm hmw hqb
  go_upto_region 3 with (go_at_call 45; refine (RdU rb _ 98305 W1 HWA.out.rd (by omega)).mono ?_; rintro e w2 ⟨cn, rfl, hcn, hce, hr2, hbt2⟩; have HCE : Hid (cn = (rU (rU (xs, 0) 1048576).2 98305).1) := hce; have HWB : Hid (MW rb w w2 qb mb (bs : Int) (.slice none 0 0) [] (rU (rU (xs, 0) 1048576).2 98305).2) := HWA.out.read hrb HAP.out.2.2.1 HAP.out.2.1 hr2 hbt2; clear hce hr2 hbt2)
  have HALL : Hid (rdAll xs = (bs, rdM cn 0 [] (rU (rU (xs, 0) 1048576).2 98305).2)) := by show _ = _; rw [rdAll, ← HBE.out, ← HCE.out]
  generalize (rU (rU (xs, 0) 1048576).2 98305).2 = st1 at *
  have hcn2 : cn ≤ 98305 := by omega
  go_wp2
  go_loopg [5] cn (fun gm s5 wr => ∃ (k : Nat) (vs : Value) (m : List RSt) (st2 : Rs), s5 = .int .i64 k ∧ k ≤ cn ∧ cn - k ≤ gm ∧ Hid (MW rb w wr qb mb (bs : Int) vs m st2) ∧ Hid (rdM cn 0 [] st1 = rdM (cn - k) k m st2) ∧ Hid (m.length = k ∧ MB m))
  case atStart => exact ⟨0, _, [], st1, rfl, Nat.zero_le _, by omega, HWB, rfl, ⟨rfl, fun i s hi => by simp at hi⟩⟩
  case round =>
    obtain ⟨k, vs, m, st2, rfl, hk, hgm, HW, HQ, HL⟩ := hrel
    obtain ⟨vd, vn, vc, hvv⟩ : ∃ vd vn vc, vs = .slice vd vn vc := by
      obtain ⟨ad, cap, e⟩ := HW.out.row.shape
      exact ⟨_, _, _, e⟩
    subst hvv
    have HER : Hid (Calls Tryz.prog 46 #[.pointer (some ⟨rb, 0, none⟩)] wr fun x w' => x = .returned (.int .i64 st2.2) ∧ w' = wr) := Cd.Err_any rb _ _ wr HW.out.rd
    by_cases hlt : k < cn
    · have hltz : (k : Int) < (cn : Int) := by omega
      by_cases he : st2.2 = 0
      · have HRD : Hid (rdM cn 0 [] st1 = rdM (cn - (k + 1)) (k + 1) (m ++ [(rdS k st2).1]) (rdS k st2).2) := by
          show _ = _
          rw [HQ.out, show cn - k = (cn - (k + 1)) + 1 by omega, rdM, if_neg (fun hne => hne he)]
        rw [he] at HER
        go_upto_region 6 with (go_at_call 46; refine HER.out.mono ?_; rintro e we ⟨rfl, hwe⟩; rw [hwe]; clear hwe we)
        have HVD := HW.out.drew
        have hS0 : wr.drew.cell? ⟨mb, 1, none⟩ = some (.slice vd vn vc) := HVD.facts.2.1
        have HVDD : Hid (MW rb w wr.drew qb mb (bs : Int) (.slice vd vn vc) m st2) := HVD
        clear HVD
        refine region_atE (S := fun W => W.cell? ⟨mb, 1, none⟩ = some (.slice vd vn vc)) 9 8 rfl mixedP ?_
        refine take_atE (i := 0) 23 rfl rfl (by kernel_rfl) (by kernel_rfl) (by kernel_rfl) (by kernel_rfl) (fun _ _ _ h => h) (by rfl) (fun _ s => by (have h := id s; clear s; go_simp; first | done | exact rfl)) (by assumption) ?_
        simp only [sZa, sZb, sZc]
        refine take_atE (i := 1) 24 rfl rfl (by kernel_rfl) (by kernel_rfl) (by kernel_rfl) (by kernel_rfl) (fun _ _ _ h => h) (by rfl) (fun _ s => by (have h := id s; clear s; go_simp; first | done | exact rfl)) (by assumption) ?_
        simp only [sZa, sZb, sZc]
        refine take_atE (i := 2) 25 rfl rfl (by kernel_rfl) (by kernel_rfl) (by kernel_rfl) (by kernel_rfl) (fun _ _ _ h => h) (by rfl) (fun _ s => by (have h := id s; clear s; go_simp; first | done | exact rfl)) (by assumption) ?_
        simp only [sZa, sZb, sZc]
        refine take_atE (i := 3) 26 rfl rfl (by kernel_rfl) (by kernel_rfl) (by kernel_rfl) (by kernel_rfl) (fun _ _ _ h => h) (by rfl) (fun _ s => by (have h := id s; clear s; go_simp; first | done | exact rfl)) (by assumption) ?_
        simp only [sZa, sZb, sZc]
        refine one_callE (i := 4) (w0 := wr.drew) 27 47 #[.pointer (some ⟨rb, 0, none⟩), .int .i64 (k : Int)] (by kernel_rfl) rfl rfl (by rfl) (by kernel_rfl) ?_
        refine (readState_any rb k wr.drew st2 HVDD.out.rd (by omega)).mono ?_
        rintro e V3 ⟨va, rfl, hva, hr3, hb3, hab, hal, ho1, ho2⟩
        have HV3 := HVDD.out.read hrb HAP.out.2.2.1 HAP.out.2.1 hr3 hb3
        have hS3 : V3.cell? ⟨mb, 1, none⟩ = some (.slice vd vn vc) := HV3.facts.2.1
        obtain ⟨s, hs⟩ : ∃ s, (rdS k st2).1 = s := ⟨_, rfl⟩
        have hvw : GOwn 63 3 w.heap.size V3 va (s.arcs.map cellsRA) := by rw [← hs]; exact hva.mono HVDD.out.but.size
        rw [hs] at hab hal ho1 ho2 ⊢
        obtain ⟨ad, an, ac, hvv⟩ : ∃ ad an ac, va = .slice ad an ac := by
          obtain ⟨ad, cap, e, _⟩ := GOwn.shape hva
          exact ⟨_, _, _, e⟩
        subst hvv
        refine ⟨_, rfl, hS3, ?_⟩
        simp only [sZa, sZb, sZc]
        obtain ⟨V4, hV4⟩ : ∃ V4, V4 = V3.alloc (.cells #[.bool s.final, .int .i64 s.out, .slice ad an ac] 61) := ⟨_, rfl⟩
        have hb4 : Below V3.heap.size V3 V4 := by rw [hV4]; exact (Below.refl _ V3).alloc (Nat.le_refl _) _
        have hn4 : V4.heap[V3.heap.size]? = some (.cells #[.bool s.final, .int .i64 s.out, .slice ad an ac] 61) := by rw [hV4]; exact alloc_newP _ _
        have hwV : w.heap.size ≤ V3.heap.size := HV3.but.size
        obtain ⟨xss, hX, hxl, hxe⟩ := HV3.row.ex
        obtain ⟨v', W', hap, ho', hgr, _⟩ := gappend_run rtyS (GOwn.below hX hb4) (Nat.le_trans hwV hb4.size) (x := [.bool s.final, .int .i64 s.out, .slice ad an ac]) ⟨rfl, by simp [Value.oneCell']⟩ (nb := V3.heap.size) (fun j u hj => by simp only [World.cell?, hn4]; simpa using hj) (by have := HL.out.1; omega) 24 1
        have hgr' : (V3.alloc (.cells #[.bool s.final, .int .i64 s.out, .slice ad an ac] 61)).grownBy W' (Value.slice vd vn vc).ownBlock := by rw [← hV4]; exact hgr
        obtain ⟨hMW, hc1, hfz⟩ := HV3.state hrb HAP.out.1 HAP.out.2.2.2.1 hX hxl hxe hvw ho' hgr'
        obtain ⟨vd2, vn2, vc2, hvv2⟩ : ∃ vd vn vc, v' = .slice vd vn vc := by
          obtain ⟨ad, cap, e, _⟩ := GOwn.shape ho'
          exact ⟨_, _, _, e⟩
        subst hvv2
        have hS4 : V4.cell? ⟨mb, 1, none⟩ = some (.slice vd vn vc) := (hb4.cell (p := ⟨mb, 1, none⟩) (Array.getElem?_eq_some_iff.1 HV3.box).1).trans hS3
        obtain ⟨W5, hW5⟩ : ∃ W5, W5 = W'.setCell ⟨mb, 1, none⟩ (.slice vd2 vn2 vc2) := ⟨_, rfl⟩
        have HNX : Hid (MW rb w W5 qb mb (bs : Int) (.slice vd2 vn2 vc2) (m ++ [s]) (rdS k st2).2) := by rw [hW5]; exact hMW
        have HRN : Hid (rdM cn 0 [] st1 = rdM (cn - (k + 1)) (k + 1) (m ++ [s]) (rdS k st2).2) := by show _ = _; rw [HRD.out, hs]
        have HLX : Hid ((m ++ [s]).length = k + 1 ∧ MB (m ++ [s])) := by
          refine ⟨by have := HL.out.1; simp; omega, fun i t hi => ?_⟩
          by_cases hi2 : i < m.length
          · rw [List.getElem?_append_left hi2] at hi
            exact HL.out.2 i t hi
          · have hi3 : i = m.length := by
              have := (List.getElem?_eq_some_iff.1 hi).1
              simp at this
              omega
            subst hi3
            rw [List.getElem?_append_right (Nat.le_refl _)] at hi
            simp at hi
            subst hi
            rw [HL.out.1]
            exact ⟨hab, hal, ho1, ho2⟩
        have HAP2 : Hid ((Builtin.append_ #[24, 24] 24 #[.slice vd vn vc, .slice (some ⟨V3.heap.size, 0, none⟩) 1 1]).run Tryz.prog V4 = .ok (.slice vd2 vn2 vc2) W') := hap
        clear hap ho' hgr hgr' hMW hn4 hb4 HV3 hr3 hb3 hX hxl hxe hva hvw hab hal ho1 ho2 hs
        refine one_valueE (i := 5) (v := .slice (some ⟨V3.heap.size, 0, none⟩) 1 1) (w' := V4) 28 (by kernel_rfl) rfl rfl (by rfl) (by rw [hV4]; go_simp; first | done | exact rfl) hS4 ?_
        simp only [sZa, sZb, sZc]
        refine one_valueE (i := 6) (v := .slice vd2 vn2 vc2) (w' := W') 29 (by kernel_rfl) rfl rfl (by rfl) (exec_app HAP2.out) hc1 ?_
        simp only [sZa, sZb, sZc]
        refine one_valueE (i := 7) (v := .pointer (some ⟨mb, 1, none⟩)) (w' := W') 30 (by kernel_rfl) rfl rfl (by rfl) (by kernel_rfl) hc1 ?_
        simp only [sZa, sZb, sZc]
        refine last_skipE (w' := W5) (by kernel_rfl) rfl rfl (by rfl) (by rw [hW5]; go_simp; first | done | exact rfl) (by kernel_rfl) ?_
        clear hV4 hW5 hc1 hfz hS4 hS3 hS0
        go_wp2
        go_roundg (cn - (k + 1))
        case measure => omega
        case rel => exact ⟨k + 1, _, _, _, by go_num, by omega, Nat.le_refl _, HNX, HRN, HLX⟩
      · have h1b : (st2.2 == 0) = false := beq_eq_false_iff_ne.2 he
        have HF : Hid (rdM cn 0 [] st1 = (m, st2)) := by
          show _ = _
          rw [HQ.out, show cn - k = (cn - k - 1) + 1 by omega, rdM, if_pos he]
        obtain ⟨f0, f1, f2, f3, f4, f5⟩ := HW.out.facts
        go_wp2_with (go_at_call 46; refine HER.out.mono ?_; rintro e we ⟨rfl, hwe⟩; rw [hwe]; clear hwe we)
        try simp only [Exit.inBlock, Exit.then]
        obtain ⟨z0, z1, z2, z3, z4⟩ := HW.out.fin hrb HAP.out.2.2.2.2
        refine bodyPost_ret (rm_results rfl z0 z1) rfl ?_
        have hall : rdAll xs = (bs, m, st2) := by rw [HALL.out, HF.out]
        refine ⟨_, by rw [hall], ?_⟩
        constructor
        · rw [hall]; exact z2
        · rw [hall]; exact z3
        · exact z4
        · rw [hall]; exact HL.out.2
        · rw [hall]; have := HL.out.1; simp only; omega
        · rw [hall]; simp only; omega
    · have hltz : ¬ (k : Int) < (cn : Int) := by omega
      have HF : Hid (rdM cn 0 [] st1 = (m, st2)) := by
        show _ = _
        rw [HQ.out, show cn - k = 0 by omega, rdM]
      obtain ⟨f0, f1, f2, f3, f4, f5⟩ := HW.out.facts
      go_wp2_with (go_at_call 46; refine HER.out.mono ?_; rintro e we ⟨rfl, hwe⟩; rw [hwe]; clear hwe we)
      try simp only [Exit.inBlock, Exit.then]
      obtain ⟨z0, z1, z2, z3, z4⟩ := HW.out.fin hrb HAP.out.2.2.2.2
      refine bodyPost_ret (rm_results rfl z0 z1) rfl ?_
      have hall : rdAll xs = (bs, m, st2) := by rw [HALL.out, HF.out]
      refine ⟨_, by rw [hall], ?_⟩
      constructor
      · rw [hall]; exact z2
      · rw [hall]; exact z3
      · exact z4
      · rw [hall]; exact HL.out.2
      · rw [hall]; have := HL.out.1; simp only; omega
      · rw [hall]; simp only; omega
end Go.Proofs.YtllmdfkiogmofaaGreatDoor
