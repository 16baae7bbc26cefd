/- Pairs in memory: rows that are read, rows that the call has made; byWord, takesAway, gone. -/
import Derived.Test.YtncnefpkfbngaaaGreatDoorJ1
import Derived.Test.YtncnefpkfbngaaaGreatDoorGe
import Derived.WalkSmall
import Derived.Shelf.SlSortCmp.KitK
import Derived.Deep.LoopGhost
namespace Go.Proofs.YtncnefpkfbngaaaGreatDoor
open Go.RowKit Go.Shelf Go.Lib Go.Sort Pm
set_option maxRecDepth 100000

/-- A word and a weight. -/
abbrev Pr := ByteArray × Int
def encP (x : Pr) : List Value := [.string x.1, .int .i64 x.2]
def valP (x : Pr) : Value := .agg #[.string x.1, .int .i64 x.2]
def lessB (a b : ByteArray) : Bool := Op.bytesLess a.data.toList b.data.toList

theorem bl_irr : ∀ a : List UInt8, Op.bytesLess a a = false
 | [] => by rw [Op.bytesLess.eq_1]
 | a :: x => by rw [Op.bytesLess.eq_3, bl_irr x]; simp
theorem bl_nil (a : List UInt8) : Op.bytesLess a [] = false := by rw [Op.bytesLess.eq_1]
theorem bl_tr : ∀ a b c : List UInt8, Op.bytesLess a b = true → Op.bytesLess b c = true → Op.bytesLess a c = true
 | _, [], _, h, _ => by rw [bl_nil] at h; cases h
 | _, _ :: _, [], _, h => by rw [bl_nil] at h; cases h
 | [], _ :: _, _ :: _, _, _ => by rw [Op.bytesLess.eq_2]
 | a :: x, b :: y, c :: z, h1, h2 => by
  rw [Op.bytesLess.eq_3] at h1 h2 ⊢
  simp only [Bool.or_eq_true, Bool.and_eq_true, decide_eq_true_eq, beq_iff_eq] at h1 h2 ⊢
  rcases h1 with h1 | ⟨rfl, h1⟩
  · rcases h2 with h2 | ⟨rfl, h2⟩
    · exact .inl (UInt8.lt_trans h1 h2)
    · exact .inl h1
  · rcases h2 with h2 | ⟨rfl, h2⟩
    · exact .inl h2
    · exact .inr ⟨rfl, bl_tr x y z h1 h2⟩
theorem bl_tot : ∀ a b : List UInt8, Op.bytesLess a b = false → Op.bytesLess b a = false → a = b
 | [], [], _, _ => rfl
 | [], _ :: _, h, _ => by rw [Op.bytesLess.eq_2] at h; cases h
 | _ :: _, [], _, h => by rw [Op.bytesLess.eq_2] at h; cases h
 | a :: x, b :: y, h1, h2 => by
  rw [Op.bytesLess.eq_3] at h1 h2
  simp only [Bool.or_eq_false_iff, Bool.and_eq_false_iff, decide_eq_false_iff_not, beq_eq_false_iff_ne] at h1 h2
  have e : a = b := UInt8.le_antisymm (UInt8.not_lt.1 h2.1) (UInt8.not_lt.1 h1.1)
  subst e
  rw [bl_tot x y (h1.2.resolve_left (fun h => h rfl)) (h2.2.resolve_left (fun h => h rfl))]
theorem ba_ext {a b : ByteArray} (h : a.data.toList = b.data.toList) : a = b := by
 cases a; cases b; simp only [ByteArray.mk.injEq] at h ⊢; exact Array.toList_inj.1 h
theorem lessB_sto : STO lessB := ⟨fun _ => bl_irr _, fun _ _ _ => bl_tr _ _ _, fun _ _ h1 h2 => ba_ext (bl_tot _ _ h1 h2)⟩
theorem strEq (a b : ByteArray) : (a.toList == b.toList) = decide (a = b) := by
 rw [Bool.eq_iff_iff, beq_iff_eq, decide_eq_true_iff, ByteArray.toList_eq, ByteArray.toList_eq]
 exact ⟨ba_ext, fun h => by rw [h]⟩

theorem pless_any (a b : ByteArray) (w : World) : Calls Tryz.prog 40 #[.string a, .string b] w fun e w' => e = .returned (.bool (lessB a b)) ∧ w' = w := by
 have HL : Hid (Op.bytesLess a.toList b.toList = lessB a b) := by
  show Op.bytesLess _ _ = _
  rw [ByteArray.toList_eq, ByteArray.toList_eq]; rfl
 go_enter Tryz.func40, Tryz.ntmps40
 go_wp2
 go_ret
 exact ⟨by rw [HL.out]; rfl, rfl⟩
/-- What byWord tells. -/
def cfP (x y : Pr) : Int := if lessB x.1 y.1 then -1 else if lessB y.1 x.1 then 1 else 0
theorem cfP_lt (x y : Pr) : ltOf cfP x y = plt lessB x y := by
 unfold ltOf cfP plt
 cases lessB x.1 y.1 <;> cases lessB y.1 x.1 <;> rfl
theorem cfP_ltf : ltOf cfP = plt lessB := funext fun x => funext fun y => cfP_lt x y
set_option maxHeartbeats 1000000 in
theorem byWord_any (x y : Pr) (W : World) : Calls Tryz.prog 63 #[.agg #[.string x.1, .int .i64 x.2], .agg #[.string y.1, .int .i64 y.2]] W fun e w' => e = .returned (.int .i64 (cfP x y)) ∧ ∃ q os', w' = grow (W.drewN q) os' := by
 have h1 := fun W' => pless_any x.1 y.1 W'
 have h2 := fun W' => pless_any y.1 x.1 W'
 have HC : Hid (cfP x y = if lessB x.1 y.1 then -1 else if lessB y.1 x.1 then 1 else 0) := rfl
 generalize lessB x.1 y.1 = b1 at h1 HC
 generalize lessB y.1 x.1 = b2 at h2 HC
 cases b1
 · cases b2
   all_goals
    go_enter Tryz.func63, Tryz.ntmps63
    go_wp2_with (first | (go_at_call 40; refine (h1 _).mono ?_; rintro e w' ⟨rfl, rfl⟩) | (go_at_call 40; refine (h2 _).mono ?_; rintro e w' ⟨rfl, rfl⟩))
    go_ret
    exact ⟨by rw [HC.out]; rfl, 0, _, by rw [alloc_eq_grow, alloc_eq_grow, grow_grow]; rfl⟩
 · go_enter Tryz.func63, Tryz.ntmps63
   go_wp2_with (go_at_call 40; refine (h1 _).mono ?_; rintro e w' ⟨rfl, rfl⟩)
   go_ret
   exact ⟨by rw [HC.out]; rfl, 0, _, by rw [alloc_eq_grow, alloc_eq_grow, grow_grow]; rfl⟩
theorem byWord_lays (blk off size : Nat) (w : World) : CmpLays Tryz.prog 63 #[] encP 2 cfP blk off size w :=
 fun _ _ _ _ x y => byWord_any x y _

/-! A pair loaded and stored whole. -/
def loadP (P : Program) (x : Value) (w : World) : Result Value := (Instr.loadAt 47 x).run P w
def storeP (P : Program) (x y : Value) (w : World) : Result Unit := (Instr.storeAt 47 x y).run P w
section
variable (ρ : Operand → Value) (x y : Operand) (dst : Option Tmp) (ty : TypeId) (pos : String) (af : Array Edge) (g : Option (Nat × Bool)) (w : World)
theorem exec_load_P : (execOp ρ ⟨dst, .load 47 x, ty, pos, af, g⟩).run Tryz.prog w = (loadP Tryz.prog (ρ x) w).andThen (fun v w' => .ok (.value v) w') := by
 simp only [execOp, Sem.run_bind, loadP, Sem.run_pure]
theorem exec_store_P : (execOp ρ ⟨dst, .store 47 x y, ty, pos, af, g⟩).run Tryz.prog w = (storeP Tryz.prog (ρ x) (ρ y) w).andThen (fun _ w' => .ok .skip w') := by
 simp only [execOp, Sem.run_bind, storeP, Sem.run_pure]
end
theorem loadP_at {w : World} {b o : Nat} {x : Pr} (h0 : w.cell? ⟨b, o, none⟩ = some (.string x.1)) (h1 : w.cell? ⟨b, o + 1, none⟩ = some (.int .i64 x.2)) : loadP Tryz.prog (.pointer (some ⟨b, o, none⟩)) w = .ok (valP x) w := by
 unfold loadP valP
 simp [go_sem, h0, h1]
 try rfl
theorem storeP_at {w : World} {b o : Nat} {x : Pr} {u v : Value} (h0 : w.cell? ⟨b, o, none⟩ = some u) (h1 : w.cell? ⟨b, o + 1, none⟩ = some v) (f0 : w.frozen? ⟨b, o, none⟩ = false) (f1 : w.frozen? ⟨b, o + 1, none⟩ = false) : storeP Tryz.prog (.pointer (some ⟨b, o, none⟩)) (valP x) w = .ok () (w.setCells b o (encP x)) := by
 unfold storeP valP
 simp [go_sem, h0, h1, f0, f1, encP, World.setCells]
 try rfl
theorem cellP0 {w : World} {blk off : Nat} {d : Array Pr} (h : HoldsK encP 2 w blk off d) {i : Nat} (hi : i < d.size) : w.cell? ⟨blk, off + i * 2, none⟩ = some (.string d[i]!.1) ∧ w.frozen? ⟨blk, off + i * 2, none⟩ = false := h.cell (c := 0) hi (by omega)
theorem cellP1 {w : World} {blk off : Nat} {d : Array Pr} (h : HoldsK encP 2 w blk off d) {i : Nat} (hi : i < d.size) : w.cell? ⟨blk, off + i * 2 + 1, none⟩ = some (.int .i64 d[i]!.2) ∧ w.frozen? ⟨blk, off + i * 2 + 1, none⟩ = false := h.cell (c := 1) hi (by omega)
theorem encP_k (x : Pr) : (encP x).length = 2 := rfl
theorem encP_one (x : Pr) : ∀ v ∈ encP x, v.oneCell' = true := by intro v hv; simp [encP] at hv; rcases hv with rfl | rfl <;> rfl
/-- What the sort is told of its row, once. -/
structure RowP (w0 : World) (blk off n : Nat) : Prop where
 ex : ∃ d0 : Array Pr, d0.size = n ∧ RowK encP 2 w0 blk off d0
 big : n < 4611686018427387904
section
variable {w0 W : World} {blk off n : Nat} {d : Array Pr}
theorem RowP.holds (R : RowP w0 blk off n) (S : SWK encP 2 w0 blk off d W) (hs : d.size = n) : HoldsK encP 2 W blk off d := by
 obtain ⟨⟨d0, e, K⟩, _⟩ := R
 exact S.holds K.hblk K.hH (by omega)
theorem RowP.load (R : RowP w0 blk off n) (S : SWK encP 2 w0 blk off d W) (hs : d.size = n) (i : Nat) (hi : i < n) : loadP Tryz.prog (.pointer (some ⟨blk, off + i * 2, none⟩)) W = .ok (valP d[i]!) W := by
 have H := R.holds S hs
 exact loadP_at (cellP0 H (by omega)).1 (cellP1 H (by omega)).1
theorem RowP.ld (R : RowP w0 blk off n) (S : SWK encP 2 w0 blk off d W) (hs : d.size = n) (i : Nat) (hi : i < n) (q : Nat) (os : Array Obj) : loadP Tryz.prog (.pointer (some ⟨blk, off + i * 2, none⟩)) (grow (W.drewN q) os) = .ok (valP d[i]!) (grow (W.drewN q) os) := R.load (S.grown q os) hs i hi
theorem RowP.ld1 (R : RowP w0 blk off n) (S : SWK encP 2 w0 blk off d W) (hs : d.size = n) (i : Nat) (hi : i < n) : loadP Tryz.prog (.pointer (some ⟨blk, off + i * 2, none⟩)) W.drew = .ok (valP d[i]!) W.drew := R.load S.drew hs i hi
theorem RowP.st1 (R : RowP w0 blk off n) (S : SWK encP 2 w0 blk off d W) (hs : d.size = n) (i : Nat) (hi : i < n) (y : Pr) : storeP Tryz.prog (.pointer (some ⟨blk, off + i * 2, none⟩)) (valP y) W.drew = .ok () (W.drew.setCells blk (off + i * 2) (encP y)) := by
 have H := R.holds S.drew hs
 exact storeP_at (cellP0 H (by omega)).1 (cellP1 H (by omega)).1 (cellP0 H (by omega)).2 (cellP1 H (by omega)).2
theorem RowP.st2 (R : RowP w0 blk off n) (S : SWK encP 2 w0 blk off d W) (hs : d.size = n) (i j : Nat) (hi : i < n) (hj : j < n) (y x : Pr) :
 storeP Tryz.prog (.pointer (some ⟨blk, off + j * 2, none⟩)) (valP x) (W.drew.setCells blk (off + i * 2) (encP y)) = .ok () ((W.drew.setCells blk (off + i * 2) (encP y)).setCells blk (off + j * 2) (encP x)) := by
 have H := holds_setCells_c (R.holds S.drew hs) (i * 2) (encP y) (by rw [encP_k, size_flatK]; omega)
 have c0 := H (j * 2) (by rw [size_setMany, size_flatK]; omega)
 have c1 := H (j * 2 + 1) (by rw [size_setMany, size_flatK]; omega)
 exact storeP_at c0.1 (by rw [Nat.add_assoc]; exact c1.1) c0.2 (by rw [Nat.add_assoc]; exact c1.2)
theorem RowP.swapped (R : RowP w0 blk off n) (S : SWK encP 2 w0 blk off d W) (hs : d.size = n) (i j : Nat) (hi : i < n) (hj : j < n) :
 SWK encP 2 w0 blk off (swp d i j) ((W.drew.setCells blk (off + i * 2) (encP d[j]!)).setCells blk (off + j * 2) (encP d[i]!)) := by
 obtain ⟨⟨d0, e, K⟩, _⟩ := R
 exact S.swapped K i j (by omega) (by omega)
theorem RowP.cmp (S : SWK encP 2 w0 blk off d W) (x y : Pr) (q : Nat) (os : Array Obj) :
 Calls Tryz.prog 63 #[valP x, valP y] (grow (W.drewN q) os) fun e w' => e = .returned (.int .i64 (cfP x y)) ∧ ∃ q' os', w' = grow ((grow (W.drewN q) os).drewN q') os' := S.cmp (byWord_lays blk off d.size w0) rfl x y q os
end
theorem mixedP : Tryz.prog.follows .mixedOrders = true := by kernel_rfl
end Go.Proofs.YtncnefpkfbngaaaGreatDoor
