/- Texts that were written apart, joined. -/
import Derived.Test.YthecngkdmnadoaaGreatG00
import Derived.SizedLaws
import Derived.Deep.DeepHandedRow
import Derived.Deep.Slices
import Derived.Lib.LaidTab
import Derived.Test.YthecngkdmnadoaaGreatWalB
import Derived.Test.YthecngkdmnadoaaGreatDrawn
import Derived.Shelf.Lay
import Derived.Shelf.Spec.SlicesGrow
import Derived.Test.YthecngkdmnadoaaGreatG03
import Derived.Deep.LoopGhost
/- What every law of this seat shares: bytes that came in, and a world for the witness. -/
namespace Go.Proofs.YthecngkdmnadoaaGreat
open Go.ChangeShapes Go.WideShapes Go.ChangeAt Go.RowKit
set_option maxRecDepth 100000

theorem own : ownKnob Tryz.prog.godebug = none := by kernel_rfl
theorem laidOut : laidOutB Tryz.prog = true := by kernel_rfl
theorem cellsByte : Tryz.prog.cellsOf 5 = 1 := by kernel_rfl
theorem bytesByte : Tryz.prog.bytesOf 5 = 1 := by kernel_rfl
/-- A world for the witness: the settled one. -/
noncomputable def laidWorld (os : Os) : World := World.holding Tryz.prog os ⟨#[], #[], []⟩

/-- How much of the bulk's bound a row of bytes takes. -/
def big {H : Type} (d : DataW H) : Nat := match d with
  | .slice elems spare => elems.length + spare.length
  | _ => 0

theorem bytes_in {H : Type} {enc : TypeId × Value → H} {W : World} {base : Nat} {v : Value} {d : DataW H} {p : List MemPlace}
    (hok : Value.okWide Tryz.prog W .any base 34 v) (h : DataW.Trod enc Tryz.prog W 0 (fun _ => true) true 34 v d p)
    (hsz : ∀ elems spare, d = .slice elems spare → (elems.length + spare.length) * Tryz.prog.bytesOf 5 ≤ reachBytes) :
    ∃ xs : List Nat, Row W.heap.size W v xs ∧ xs.length ≤ 140737488351232 ∧ (∀ x ∈ xs, x < 256) ∧ xs.length ≤ big d := by
  obtain ⟨a0, len, cap, rfl⟩ := okWide_slice Tryz.underlying34 hok
  obtain ⟨fuel, hf⟩ := h
  rcases open_ints Tryz.underlying34 Tryz.underlying5 cellsByte hf with ⟨hcs, hx⟩ | ⟨a, len', cap', zs, hcs, _, hl, hm, hz, hx, hcell, hwz⟩
  · simp [Value.cells] at hcs
    obtain ⟨rfl, rfl, rfl⟩ := hcs
    exact ⟨[], ⟨none, 0, rfl, Nat.le_refl _, fun _ => rfl, fun h => by (simp at h)⟩, by simp, fun x hx => by (simp at hx), by simp⟩
  · simp [Value.cells] at hcs
    obtain ⟨rfl, rfl, rfl⟩ := hcs
    simp only [Prod.mk.injEq] at hx
    obtain ⟨rfl, _⟩ := hx
    simp only [if_true] at hz
    have hlen : (zs.take len).length = len := by rw [List.length_take]; omega
    have hb : ∀ x ∈ zs, 0 ≤ x ∧ x ≤ 255 := fun x hx => bounds_u8 (hwz x hx)
    have hlen2 : ((zs.take len).map Int.toNat).length = len := by rw [List.length_map, hlen]
    refine ⟨(zs.take len).map Int.toNat, ⟨some a, cap, by rw [hlen2], by omega, fun h => by (cases h), fun h0 => ?_⟩, ?_, ?_, ?_⟩
    · rw [hlen2] at h0
      obtain ⟨b, off, rfl, hc⟩ := ints_at hcell (by omega)
      refine ⟨b, off, rfl, lt_of_cell (hc 0 (by omega)), fun i hi => ?_⟩
      rw [hlen2] at hi
      rw [hc i (by omega)]
      have hz2 : i < zs.length := by omega
      have := hb zs[i] (List.getElem_mem hz2)
      simp [List.getD_eq_getElem?_getD, hi, hz2]
      omega
    · have := hsz _ _ rfl
      rw [bytesByte] at this
      simp only [lits, List.length_map, List.length_take, List.length_drop, reachBytes] at this
      rw [hlen2]
      omega
    · intro x hx
      obtain ⟨z, hz, rfl⟩ := List.mem_map.1 hx
      have := hb z (List.mem_of_mem_take hz)
      omega
    · rw [hlen2]
      simp only [big, lits, List.length_map, List.length_take]
      omega
end Go.Proofs.YthecngkdmnadoaaGreat

/- The segment that is written: write. -/
namespace Go.Proofs.YthecngkdmnadoaaGreat
open Go.RowKit
set_option maxRecDepth 100000

/-- 'append(p, q...)' in a region that draws. -/
theorem wp_append_row {w : World} {o : Oper} {a : Act} {K : Act → World → Prop} {Q : Exit → Act → World → Prop} (s x : Operand)
    (ho : o.op = .call { callee := .builtin .append, args := #[s, x], argTypes := #[34, 34] }) (B N : Nat) (v v2 : Value) (xs ys : List Nat)
    (hs : a.eval s = v) (hown : Bytes B w v xs) (hx : a.eval x = v2) (hsrc : Row N w v2 ys) (hl : xs.length + ys.length ≤ 140737488355328) (hB : B ≤ w.heap.size)
    (h : ∀ v' w', Bytes B w' v' (xs ++ ys) → Below B w w' → K (a.put o.dst v') w') : o.wp Tryz.prog a w K Q := by
  obtain ⟨i0, hi, hz0, hz1, hz2⟩ := info_parts infoByte
  obtain ⟨ao, cap, rfl, hcap, hno, hc⟩ := hsrc
  cases ao with
  | none =>
    have e : ys = [] := by
      cases ys with
      | nil => rfl
      | cons y r => obtain ⟨b, off, e, _⟩ := hc (by simp); cases e
    subst e
    obtain rfl := hno rfl
    have hrun := run_append_owned_none (P := Tryz.prog) (w := w) B 34 o.type 5 i0 1 Tryz.underlying34 hi v xs.length (xs.map bv) hown
    unfold Oper.wp
    simp [execOp, ho, resolve, invoke, builtin, hs, hx, hrun, Result.andThen]
    exact h _ _ (by simpa using hown) (Below.refl _ _)
  | some ad =>
    refine wp_append_own w s x 34 ho B 5 i0 (.int .u8 0) 1 1 Tryz.underlying34 hi hz0 hz1 hz2 rfl (by decide) v xs.length _ hs hown ad ys.length cap (ys.map bv) hx (by simp) ?_ ?_ ?_ ?_ hB ?_
    · intro j u hj
      have hjl : j < ys.length := by
        have := (List.getElem?_eq_some_iff.1 hj).1
        simpa using this
      obtain ⟨b, off, e2, _, hc2⟩ := hc (by omega)
      obtain rfl := Option.some.inj e2
      have := hc2 j hjl
      have hadd : (⟨b, off, none⟩ : Addr).add j = ⟨b, off + j, none⟩ := by unfold Addr.add; split <;> simp_all
      rw [hadd, this]
      rw [List.getElem?_map, List.getElem?_eq_getElem hjl] at hj
      simp at hj
      rw [← hj]
      simp [List.getD_eq_getElem?_getD, List.getElem?_eq_getElem hjl]
    · intro u hu
      obtain ⟨z, _, rfl⟩ := List.mem_map.1 hu
      rfl
    · unfold maxLen; omega
    · omega
    · intro v' w' h5 h6 _
      refine h v' w' ?_ ((Below.refl B w).grown h6 hB (fun k hk => (World.ownsRow.lt hown k hk).1))
      unfold Bytes
      simpa using h5
theorem bytes_w1 (w : World) (n : Nat) : Bytes w.heap.size (w.alloc (Obj.cells #[.int .u8 (n : Int)] 5)) (.slice (some ⟨w.heap.size, 0, none⟩) 1 1) [n] := World.ownsRow_lit w #[.int .u8 (n : Int)] 1 (Nat.le_refl _) (by decide) rfl
/-- A segment that is written, wherever it lies. -/
structure SG (b o area sector : Nat) (W : World) : Prop where
  c0 : W.cell? ⟨b, o, none⟩ = some (.int .u64 (area : Int))
  c1 : W.cell? ⟨b, o + 1, none⟩ = some (.int .i64 (sector : Int))
theorem SG.facts {b o area sector : Nat} {W : World} (h : SG b o area sector W) : W.cell? ⟨b, o, none⟩ = some (.int .u64 (area : Int)) ∧ W.cell? ⟨b, o + 1, none⟩ = some (.int .i64 (sector : Int)) := ⟨h.c0, h.c1⟩
theorem SG.same {b o area sector : Nat} {W W' : World} (h : SG b o area sector W) (hb : W'.heap[b]? = W.heap[b]?) : SG b o area sector W' :=
  ⟨(World.cell?_of_block (a := ⟨b, o, none⟩) hb).trans h.c0, (World.cell?_of_block (a := ⟨b, o + 1, none⟩) hb).trans h.c1⟩
theorem SG.lt {b o area sector : Nat} {W : World} (h : SG b o area sector W) : b < W.heap.size := lt_of_cell h.c0
set_option maxHeartbeats 1000000 in
theorem swrite_any (N p b o area sector : Nat) (d : DS) (fp : List Nat) (v : Value) (xs : List Nat) (w : World) (hd : DiskAt N w p d fp) (hs : SG b o area sector w) (hbf : b ∉ fp) (hr : RowX fp w v xs) (hx : xs.length ≤ 63) (hN : N < 1099511627776) :
    Calls Tryz.prog 98 #[.pointer (some ⟨b, o, none⟩), .pointer (some ⟨p, 0, none⟩), v] w fun e w' => e = .returned (.int .i64 (wrE d area sector (xs.length :: xs))) ∧ ∃ fp', DiskAt (N + 1) w' p (wrD d area sector (xs.length :: xs)) fp' ∧ Only fp w w' ∧ ∀ k ∈ fp', k ∈ fp ∨ w.heap.size ≤ k := by
  obtain ⟨ao, cap, rfl, _⟩ := hr.1.shape
  have HR : Hid (RowX fp w (.slice ao xs.length cap) xs) := hr
  have HD : Hid (DiskAt N w p d fp) := hd
  have HS : Hid (SG b o area sector w.drew) := ⟨hs.c0, hs.c1⟩
  have hlt := hs.lt
  have HLT : Hid (∀ k ∈ fp, k < w.heap.size) := hd.lt
  have hwr : IntKind.u8.wrap (xs.length : Int) = (xs.length : Int) := by simp [IntKind.wrap, IntKind.bits, IntKind.signed]; omega
  have hxl : (xs.length : Int) < 256 := by omega
  clear hr hd hs
  go_enter Tryz.func98, Tryz.ntmps98
  go_wp2_with fail
  refine region_at (S := SG b o area sector) 17 rfl (by kernel_rfl) HS.out (fun hHeld => ?_)
  refine take_at (i := 0) 7 rfl rfl (by kernel_rfl) (by kernel_rfl) (by kernel_rfl) (fun _ _ _ h => h) (by rfl) (fun w hSw => by (have hSw2 := SG.facts hSw; clear hSw; go_simp; first | done | exact rfl)) (by assumption) ?_
  simp only [List.setIfInBounds_toArray, List.set_cons_zero, List.set_cons_succ]
  refine take_at (i := 1) 8 rfl rfl (by kernel_rfl) (by kernel_rfl) (by kernel_rfl) (fun _ _ _ h => h) (by rfl) (fun w hSw => by (have hSw2 := SG.facts hSw; clear hSw; go_simp; first | done | exact rfl)) (by assumption) ?_
  simp only [List.setIfInBounds_toArray, List.set_cons_zero, List.set_cons_succ]
  refine take_at (i := 2) 9 rfl rfl (by kernel_rfl) (by kernel_rfl) (by kernel_rfl) (fun _ _ _ h => h) (by rfl) (fun w hSw => by (have hSw2 := SG.facts hSw; clear hSw; go_simp; first | done | exact rfl)) (by assumption) ?_
  simp only [List.setIfInBounds_toArray, List.set_cons_zero, List.set_cons_succ]
  refine take_at (i := 3) 10 rfl rfl (by kernel_rfl) (by kernel_rfl) (by kernel_rfl) (fun _ _ _ h => h) (by rfl) (fun w hSw => by (have hSw2 := SG.facts hSw; clear hSw; go_simp; first | done | exact rfl)) (by assumption) ?_
  simp only [List.setIfInBounds_toArray, List.set_cons_zero, List.set_cons_succ]
  refine take_at (i := 4) 11 rfl rfl (by kernel_rfl) (by kernel_rfl) (by kernel_rfl) (fun _ _ _ h => h) (by rfl) (fun w hSw => by (have hSw2 := SG.facts hSw; clear hSw; go_simp; first | done | exact rfl)) (by assumption) ?_
  simp only [List.setIfInBounds_toArray, List.set_cons_zero, List.set_cons_succ]
  refine take_at (i := 5) 12 rfl rfl (by kernel_rfl) (by kernel_rfl) (by kernel_rfl) (fun _ _ _ h => h) (by rfl) (fun w hSw => by (have hSw2 := SG.facts hSw; clear hSw; go_simp; first | done | exact rfl)) (by assumption) ?_
  simp only [List.setIfInBounds_toArray, List.set_cons_zero, List.set_cons_succ]
  refine take_at (i := 6) 13 rfl rfl (by kernel_rfl) (by kernel_rfl) (by kernel_rfl) (fun _ _ _ h => h) (by rfl) (fun w hSw => by (have hSw2 := SG.facts hSw; clear hSw; go_simp; first | done | exact rfl)) (by assumption) ?_
  simp only [List.setIfInBounds_toArray, List.set_cons_zero, List.set_cons_succ]
  refine take_at (i := 7) 14 rfl rfl (by kernel_rfl) (by kernel_rfl) (by kernel_rfl) (fun _ _ _ h => h) (by rfl) (fun w hSw => by (have hSw2 := SG.facts hSw; clear hSw; go_simp; first | done | exact rfl)) (by assumption) ?_
  simp only [List.setIfInBounds_toArray, List.set_cons_zero, List.set_cons_succ]
  refine take_at (i := 8) 15 rfl rfl (by kernel_rfl) (by kernel_rfl) (by kernel_rfl) (fun _ _ _ h => h) (by rfl) (fun w hSw => by (have hSw2 := SG.facts hSw; clear hSw; go_simp; first | done | exact rfl)) (by assumption) ?_
  simp only [List.setIfInBounds_toArray, List.set_cons_zero, List.set_cons_succ]
  refine take_at (i := 9) 16 rfl rfl (by kernel_rfl) (by kernel_rfl) (by kernel_rfl) (fun _ _ _ h => h) (by rfl) (fun w hSw => by (have hSw2 := SG.facts hSw; clear hSw; go_simp; first | done | exact rfl)) (by assumption) ?_
  simp only [List.setIfInBounds_toArray, List.set_cons_zero, List.set_cons_succ]
  refine take_at (i := 10) 17 rfl rfl (by kernel_rfl) (by kernel_rfl) (by kernel_rfl) (fun _ _ _ h => h) (by rfl) (fun w hSw => by (have hSw2 := SG.facts hSw; clear hSw; go_simp; first | done | exact rfl)) (by assumption) ?_
  simp only [List.setIfInBounds_toArray, List.set_cons_zero, List.set_cons_succ]
  refine take_at (i := 11) 18 rfl rfl (by kernel_rfl) (by kernel_rfl) (by kernel_rfl) (fun _ _ _ h => h) (by rfl) (fun w hSw => by (have hSw2 := SG.facts hSw; clear hSw; go_simp; first | done | exact rfl)) (by assumption) ?_
  simp only [List.setIfInBounds_toArray, List.set_cons_zero, List.set_cons_succ]
  refine take_at (i := 13) 20 rfl rfl (by kernel_rfl) (by kernel_rfl) (by kernel_rfl) (fun _ _ _ h => h) (by rfl) (fun w hSw => by (have hSw2 := SG.facts hSw; clear hSw; go_simp; first | done | exact rfl)) (by assumption) ?_
  simp only [List.setIfInBounds_toArray, List.set_cons_zero, List.set_cons_succ]
  have hz : w.drew.heap.size = w.heap.size := rfl
  have hSA : SG b o area sector (w.drew.alloc (Obj.cells #[.int .u8 (xs.length : Int)] 5)) := HS.out.same (alloc_old _ _ (by rw [hz]; exact hlt))
  refine one_value (i := 12) (v := .slice (some ⟨w.drew.heap.size, 0, none⟩) 1 1) (w' := w.drew.alloc (Obj.cells #[.int .u8 (xs.length : Int)] 5)) 19 (by kernel_rfl) rfl rfl (by rfl) (by go_simp; first | done | exact rfl) hSA (fun hHeld2 => ?_)
  simp only [List.setIfInBounds_toArray, List.set_cons_zero, List.set_cons_succ]
  have B1 : Below w.heap.size w (w.drew.alloc (Obj.cells #[.int .u8 (xs.length : Int)] 5)) := (Below.refl _ w).drew.alloc (Nat.le_refl _) _
  obtain ⟨w1, hw1⟩ : ∃ w1, w.drew.alloc (Obj.cells #[.int .u8 (xs.length : Int)] 5) = w1 := ⟨_, rfl⟩
  have hBy : Bytes w.heap.size w1 (.slice (some ⟨w.drew.heap.size, 0, none⟩) 1 1) [xs.length] := hw1 ▸ bytes_w1 w.drew xs.length
  rw [hw1] at hSA hHeld2 B1
  rw [hw1]
  have hs1 : w1.heap.size = w.heap.size + 1 := by rw [← hw1]; simp
  refine one_at (i := 14) 21 (by kernel_rfl) rfl rfl (by rfl) (fun K hK => ?_)
  refine wp_append_row (.tmp 19) (.tmp 20) rfl w.heap.size w1.heap.size _ _ [xs.length] xs rfl hBy rfl ((HR.out.1.below B1).mono B1.size) (by simp; omega) (by omega) ?_
  intro v2 w2 hby2 hb2
  have B2 : Below w.heap.size w w2 := B1.trans hb2
  have hS2 : SG b o area sector w2 := HS.out.same (B2.block b hlt)
  refine hK _ _ hS2 (fun hHeld3 => ?_)
  simp only [List.setIfInBounds_toArray, List.set_cons_zero, List.set_cons_succ]
  refine one_call (i := 15) (w0 := w2) 22 25 #[.pointer (some ⟨p, 0, none⟩), .int .u64 (area : Int), .int .i64 (sector : Int), v2] (by kernel_rfl) rfl rfl (by rfl) (by kernel_rfl) ?_
  have hrx : RowX fp w2 v2 (xs.length :: xs) := by
    refine ⟨hby2.row, fun b' off len cap' e h0 hm => ?_⟩
    obtain ⟨_, ⟨e1, _⟩ | ⟨g, cap, cur, e1, hg, _⟩⟩ := hby2
    · rw [e1] at e; cases e
    · rw [e1] at e
      simp only [Value.slice.injEq, Option.some.injEq, Addr.mk.injEq] at e
      have := HLT.out b' hm
      omega
  refine (Write_any N p d fp (area : Int) (sector : Int) v2 (xs.length :: xs) w2 (HD.out.below B2) hrx (by simp; omega) (by omega)).mono ?_
  rintro e w3 ⟨rfl, fp', hd3, ho3, hf3⟩
  have hS3 : SG b o area sector w3 := hS2.same (ho3.block b (by have := B2.size; omega) hbf)
  refine ⟨_, rfl, hS3, fun hHeld4 => ?_⟩
  simp only [List.setIfInBounds_toArray, List.set_cons_zero, List.set_cons_succ]
  refine take_at (i := 16) 6 rfl rfl (by kernel_rfl) (by kernel_rfl) (by kernel_rfl) (fun _ _ _ h => h) (by rfl) (fun w hSw => by (have hSw2 := SG.facts hSw; clear hSw; go_simp; first | done | exact rfl)) (by assumption) ?_
  simp only [List.setIfInBounds_toArray, List.set_cons_zero, List.set_cons_succ]
  refine wpAnyH_done (by kernel_rfl) ?_ _
  have HE : Hid (∃ fp', DiskAt (N + 1) w3 p (wrD d area sector (xs.length :: xs)) fp' ∧ Only fp w w3 ∧ ∀ k ∈ fp', k ∈ fp ∨ w.heap.size ≤ k) := by
    have hsz := B2.size
    exact ⟨fp', hd3, (Only.of_below B2).trans ho3 fun x hx => .inl hx, fun k hk => (hf3 k hk).imp id fun h => by omega⟩
  clear hHeld hHeld2 hHeld3 hHeld4 hSA hS2 hS3 B1 B2 hBy hby2 hb2 hrx hd3 ho3 hf3 hK
  go_wp2_with fail
  go_ret
  exact ⟨rfl, HE.out⟩
end Go.Proofs.YthecngkdmnadoaaGreat

/- slices.Concat of two rows of bytes. -/
namespace Go.Proofs.YthecngkdmnadoaaGreat
open Go.RowKit Go.Shelf
set_option maxRecDepth 100000
shelf_lay_g Lays8.n4 Nm8 4 at Tryz 121 as growB
theorem grow_nilB (n : Nat) (hn : n < 17592186044416) (w : World) : Calls Tryz.prog 121 #[.slice none 0 0, .int .i64 n] w fun e w' => ∃ v, e = .returned v ∧ Bytes w.heap.size w' v [] ∧ Below w.heap.size w w' := by
  obtain ⟨i0, hi, hz0, hz1, hz2⟩ := info_parts infoByte
  rcases Nat.eq_zero_or_pos n with rfl | h0
  · refine (Any8.slices_Grow_room growB none 0 0 0 w (Nat.le_refl _) (by omega) (by omega) (by omega)).mono ?_
    rintro e w' ⟨rfl, rfl⟩
    exact ⟨_, rfl, Bytes.nil _ _, Below.refl _ _⟩
  · refine (Any8.slices_Grow_grow growB i0 (.int .u8 0) hi hz0 (by rw [hz1]; decide) none 0 0 n [] w (Nat.le_refl _) (by omega) (by rw [hz2]; omega) (by omega) (by simp) (fun _ => rfl) (fun a h => by cases h)).mono ?_
    rintro e w' ⟨rfl, rfl⟩
    refine ⟨_, rfl, ⟨rfl, .inr ⟨_, _, _, rfl, Nat.le_refl _, alloc_new _ _, Nat.zero_le _, ?_, ?_, rfl⟩⟩, ((Below.refl _ w).drew).alloc (Nat.le_refl _) _⟩
    · exact grownCap_le_maxLen w (0 + n) 0 _ (by unfold maxLen; omega)
    · have hge : n ≤ grownCap w n 0 (growB_ren.t 25) := grownCap_ge w n 0 _
      simp [Builtin.zeroCells, Value.cells]
      omega
set_option maxHeartbeats 4000000 in
theorem ConcatB_any (w : World) (vb c : Nat) (s1 s2 : Value) (xs ys : List Nat) (h1 : Row w.heap.size w s1 xs) (h2 : Row w.heap.size w s2 ys) (hx : xs.length < 8796093022208) (hy : ys.length < 8796093022208) (hvb : vb < w.heap.size)
    (c0 : w.cell? ⟨vb, 0, none⟩ = some s1) (c1 : w.cell? ⟨vb, 1, none⟩ = some s2) :
    Calls Tryz.prog 97 #[.slice (some ⟨vb, 0, none⟩) 2 c] w fun e w' => ∃ v, e = .returned v ∧ Bytes w.heap.size w' v (xs ++ ys) ∧ Below w.heap.size w w' := by
  obtain ⟨a1, cp1, rfl, _⟩ := h1.shape
  obtain ⟨a2, cp2, rfl, _⟩ := h2.shape
  have H1 : Hid (Row w.heap.size w (.slice a1 xs.length cp1) xs) := h1
  have H2 : Hid (Row w.heap.size w (.slice a2 ys.length cp2) ys) := h2
  obtain ⟨n1, hn1⟩ : ∃ n1, xs.length = n1 := ⟨_, rfl⟩
  obtain ⟨n2, hn2⟩ : ∃ n2, ys.length = n2 := ⟨_, rfl⟩
  obtain ⟨n3, hn3⟩ : ∃ n3, n1 + n2 = n3 := ⟨_, rfl⟩
  have HN1 : Hid (xs.length = n1) := hn1
  have HN2 : Hid (ys.length = n2) := hn2
  have hsum : (n1 : Int) + (n2 : Int) = (n3 : Int) := by omega
  have hp1 : ¬ ((n1 : Int) < 0) := by omega
  have hp3 : ¬ ((n3 : Int) < 0) := by omega
  have hn3b : n3 < 17592186044416 := by omega
  rw [hn1] at c0 H1
  rw [hn2] at c1 H2
  clear h1 h2 hn1 hn2
  go_enter Tryz.func97, Tryz.ntmps97
  go_wp2
  refine wp_loop_rounds 3 ?_
  rw [rounds_succ]
  go_wp2
  rw [rounds_succ]
  go_wp2
  rw [rounds_succ]
  go_wp2_with (go_at_call 121; refine (grow_nilB n3 hn3b _).mono ?_; rintro e w1 ⟨v, rfl, hr1, hB1⟩)
  have HR1 : Hid (Bytes w.heap.size w1 v []) := hr1
  have HB1 : Hid (Below w.heap.size w w1) := hB1
  have d0 := (hB1.cell (p := ⟨vb, 0, none⟩) hvb).trans c0
  clear hr1 hB1
  refine wp_loop_rounds 3 ?_
  rw [rounds_succ]
  go_wp2_with (at_builtin; refine append_row (by rfl) _ _ rfl w.heap.size w.heap.size _ _ [] xs rfl HR1.out rfl (H1.out.below HB1.out) (by simp; have := HN1.out; omega) HB1.out.size ?_)
  intro v2 w2 hr2 hb2 _
  have HR2 : Hid (Bytes w.heap.size w2 v2 xs) := hr2
  have HB2 : Hid (Below w.heap.size w w2) := HB1.out.trans hb2
  have d1 := (HB2.out.cell (p := ⟨vb, 1, none⟩) hvb).trans c1
  clear hr2 hb2 d0
  go_wp2_with fail
  rw [rounds_succ]
  go_wp2_with (at_builtin; refine append_row (by rfl) _ _ rfl w.heap.size w.heap.size _ _ xs ys rfl HR2.out rfl (H2.out.below HB2.out) (by have := HN1.out; have := HN2.out; omega) HB2.out.size ?_)
  intro v3 w3 hr3 hb3 _
  have HR3 : Hid (Bytes w.heap.size w3 v3 (xs ++ ys)) := hr3
  have HB3 : Hid (Below w.heap.size w w3) := HB2.out.trans hb3
  clear hr3 hb3 d1
  go_wp2_with fail
  rw [rounds_succ]
  go_wp2_with fail
  go_ret
  exact ⟨v3, rfl, HR3.out, HB3.out⟩
end Go.Proofs.YthecngkdmnadoaaGreat

/- segment.lay: bytes laid behind the text. -/
namespace Go.Proofs.YthecngkdmnadoaaGreat
open Go.RowKit Go.Shelf
set_option maxRecDepth 100000

/-- What lay leaves: the disk, the sector that is written next, what that says (none: it was broken off), the answer. -/
structure LayR where
  d : DS
  sector : Nat
  tail : Option (List Nat)
  e : Int
def layF (area : Nat) : Nat → DS → Nat → List Nat → LayR
  | 0, d, s, left => ⟨d, s, some left, 0⟩
  | f + 1, d, s, left => if 63 ≤ left.length then
      (if wrE d area s (63 :: left.take 63) = 0 then layF area f (wrD d area s (63 :: left.take 63)) (s + 1) (left.drop 63) else ⟨wrD d area s (63 :: left.take 63), s, none, wrE d area s (63 :: left.take 63)⟩)
    else if left = [] then ⟨d, s, some [], 0⟩ else ⟨wrD d area s (left.length :: left), s, some left, wrE d area s (left.length :: left)⟩
def layR (d : DS) (area sector : Nat) (left : List Nat) : LayR := layF area (left.length + 1) d sector left
theorem layF_go {area f s : Nat} {d : DS} {left : List Nat} (h : 63 ≤ left.length) (he : wrE d area s (63 :: left.take 63) = 0) : layF area (f + 1) d s left = layF area f (wrD d area s (63 :: left.take 63)) (s + 1) (left.drop 63) := by rw [layF, if_pos h, if_pos he]
theorem layF_bad {area f s : Nat} {d : DS} {left : List Nat} (h : 63 ≤ left.length) (he : ¬ wrE d area s (63 :: left.take 63) = 0) : layF area (f + 1) d s left = ⟨wrD d area s (63 :: left.take 63), s, none, wrE d area s (63 :: left.take 63)⟩ := by rw [layF, if_pos h, if_neg he]
theorem layF_nil {area f s : Nat} {d : DS} : layF area (f + 1) d s [] = ⟨d, s, some [], 0⟩ := by rw [layF, if_neg (by simp), if_pos rfl]
theorem layF_end {area f s : Nat} {d : DS} {left : List Nat} (h : ¬ 63 ≤ left.length) (h0 : left ≠ []) : layF area (f + 1) d s left = ⟨wrD d area s (left.length :: left), s, some left, wrE d area s (left.length :: left)⟩ := by rw [layF, if_neg h, if_neg h0]

/-- The three cells of a segment within a block. -/
def segC (C : Array Value) (o area sector : Nat) (t : Value) : Array Value := ((C.setIfInBounds o (.int .u64 (area : Int))).setIfInBounds (o + 1) (.int .i64 (sector : Int))).setIfInBounds (o + 2) t
structure SegAt (W : World) (b o : Nat) (C : Array Value) (T : TypeId) (area sector : Nat) (t : Value) : Prop where
  sz : o + 2 < C.size
  hb : W.heap[b]? = some (.cells (segC C o area sector t) T (0, 0))
theorem SegAt.cells {W : World} {b o : Nat} {C : Array Value} {T : TypeId} {area sector : Nat} {t : Value} (h : SegAt W b o C T area sector t) :
    W.cell? ⟨b, o, none⟩ = some (.int .u64 (area : Int)) ∧ W.cell? ⟨b, o + 1, none⟩ = some (.int .i64 (sector : Int)) ∧ W.cell? ⟨b, o + 2, none⟩ = some t ∧ ∀ k, W.frozen? ⟨b, k, none⟩ = false := by
  obtain ⟨sz, hb⟩ := h
  have s1 : o < C.size := by omega
  have s2 : o + 1 < C.size := by omega
  refine ⟨?_, ?_, ?_, fun k => ?_⟩
  · simp only [World.cell?, hb, segC, Array.getElem?_setIfInBounds]
    simp [s1]
  · simp only [World.cell?, hb, segC, Array.getElem?_setIfInBounds]
    simp [s2]
  · simp only [World.cell?, hb, segC, Array.getElem?_setIfInBounds]
    simp [sz]
  · simp [World.frozen?, hb]
theorem SegAt.lt {W : World} {b o : Nat} {C : Array Value} {T : TypeId} {area sector : Nat} {t : Value} (h : SegAt W b o C T area sector t) : b < W.heap.size := (Array.getElem?_eq_some_iff.1 h.hb).1
theorem SegAt.same {W W' : World} {b o : Nat} {C : Array Value} {T : TypeId} {area sector : Nat} {t : Value} (h : SegAt W b o C T area sector t) (hb : W'.heap[b]? = W.heap[b]?) : SegAt W' b o C T area sector t := ⟨h.sz, hb.trans h.hb⟩
theorem SegAt.sg {W : World} {b o : Nat} {C : Array Value} {T : TypeId} {area sector : Nat} {t : Value} (h : SegAt W b o C T area sector t) : SG b o area sector W := ⟨h.cells.1, h.cells.2.1⟩
theorem setIn_comm (C : Array Value) {i j : Nat} (u v : Value) (h : i ≠ j) : (C.setIfInBounds i u).setIfInBounds j v = (C.setIfInBounds j v).setIfInBounds i u := by
  apply Array.ext_getElem?
  intro k
  simp only [Array.getElem?_setIfInBounds, Array.size_setIfInBounds]
  by_cases h1 : i = k
  · subst h1
    simp [Ne.symm h]
  · by_cases h2 : j = k
    · subst h2; simp [h]
    · simp [h1, h2]
theorem setIn_set (C : Array Value) (i : Nat) (u v : Value) : (C.setIfInBounds i u).setIfInBounds i v = C.setIfInBounds i v := by
  apply Array.ext_getElem?
  intro k
  simp only [Array.getElem?_setIfInBounds, Array.size_setIfInBounds]
  by_cases h1 : i = k
  · subst h1; simp
  · simp [h1]
theorem SegAt.sector {W : World} {b o : Nat} {C : Array Value} {T : TypeId} {area sector : Nat} {t : Value} (h : SegAt W b o C T area sector t) (s : Nat) : SegAt (W.setCell ⟨b, o + 1, none⟩ (.int .i64 (s : Int))) b o C T area s t := by
  refine ⟨h.sz, ?_⟩
  rw [set_cell h.hb, segC, segC, setIn_comm _ _ _ (by omega), setIn_set]
theorem SegAt.tail {W : World} {b o : Nat} {C : Array Value} {T : TypeId} {area sector : Nat} {t : Value} (h : SegAt W b o C T area sector t) (u : Value) : SegAt (W.setCell ⟨b, o + 2, none⟩ u) b o C T area sector u := by
  refine ⟨h.sz, ?_⟩
  rw [set_cell h.hb, segC, segC, setIn_set]
/-- A row that was made since world w0, in no block of fp. -/
def NewRow (n0 : Nat) (fp : List Nat) (w : World) (v : Value) (xs : List Nat) : Prop := RowX fp w v xs ∧ ∀ g off len cap, v = .slice (some ⟨g, off, none⟩) len cap → 0 < xs.length → n0 ≤ g
end Go.Proofs.YthecngkdmnadoaaGreat
