/- The law's alive and made; the reference's Right. -/
import Derived.Test.YtfhmamalanloaaaDoorLvNew
import Derived.Test.YtfhmamalanloaaaDoorLvStep
namespace Go.Proofs.YtfhmamalanloaaaDoor
open Go.RowKit Nums Ed Lv
set_option maxRecDepth 100000

/-- A row laid into a new block. -/
theorem keep_row (w : World) (ys : List Nat) (h : ys.length = 25) : ∃ w', storeR Tryd.prog (.pointer (some ⟨w.heap.size, 0, none⟩)) (rV ys) (w.alloc (.cells (rC zeros) 32)) = .ok () w' ∧ RAt w' w.heap.size ys ∧ Below w.heap.size w w' ∧ w.heap.size < w'.heap.size := by
  have N5 : RAt (w.alloc (.cells (rC zeros) 32)) w.heap.size zeros := RAt.new _ _
  obtain ⟨P6, O6⟩ := N5.put (ys := ys) (by rw [h, zeros_len])
  exact ⟨_, storeR_at N5 zeros_len h, P6, O6.below ((Below.refl _ w).alloc (Nat.le_refl _) _) (Nat.le_refl _), P6.lt⟩
theorem put_row {w : World} {b : Nat} {bs : List Nat} (ys : List Nat) (hb : RAt w b bs) (hl : bs.length = 25) (h : ys.length = 25) : ∃ w', storeR Tryd.prog (.pointer (some ⟨b, 0, none⟩)) (rV ys) w = .ok () w' ∧ RAt w' b ys ∧ One b w w' := by
  obtain ⟨P6, O6⟩ := hb.put (ys := ys) (by rw [h, hl])
  exact ⟨_, storeR_at hb hl h, P6, O6⟩
theorem New_ab (w : World) (ht : Tabs w) :
    Calls Tryd.prog 11 #[.string { data := #[97, 98] }, .int .i64 1] w fun e w' => ∃ p, e = .returned (.tuple #[.pointer (some ⟨p, 0, none⟩), .int .i64 0]) ∧ Below w.heap.size w w' ∧ LevAt w' p [97, 98] 1 := by
  refine (New_any { data := #[97, 98] } 1 w ht (by decide)).mono ?_
  rintro e w' ⟨v, c, rfl, hb, ⟨hn, _⟩ | ⟨_, rfl, p, xs, d, rfl, _, hx, hd, hl⟩⟩
  · have h2 : rightB [97, 98] 1 = true := by decide +kernel
    rw [show (ByteArray.mk #[97, 98]).data.toList = [97, 98] from rfl, h2] at hn
    cases hn
  · have h1 : rs [97, 98] = some [97, 98] := by decide +kernel
    obtain rfl : [97, 98] = xs := Option.some.inj (h1.symm.trans hx)
    obtain rfl : d = 1 := by omega
    exact ⟨p, rfl, hb, hl⟩
def ab1 : List Nat := startL 2 1
def ab2 : List Nat := stepL [97, 98] 1 ab1 98
def ab3 : List Nat := stepL [97, 98] 1 ab2 120
def one3 : List Nat := ([1, 1, 1] : List Nat) ++ List.replicate 22 0
theorem ab2_is : ab2 = one3 := by decide +kernel
theorem ab2_dist : distN 2 1 ab2 = 1 ∧ distB 2 1 ab2 = true := by decide +kernel
theorem ab3_dead : aliveB 2 1 ab3 = false := by decide +kernel
theorem one3_byte : ∀ x ∈ one3, x < 256 := by decide +kernel
theorem exec_build_3 (a : Act) (dst : Option Tmp) (ty : TypeId) (pos : String) (af : Array Edge) (g : Option (Nat × Bool)) (w : World) : (execOp a.eval ⟨dst, .build 32 #[(0, .const (.int .u8 1)), (1, .const (.int .u8 1)), (2, .const (.int .u8 1))], ty, pos, af, g⟩).run Tryd.prog w = .ok (.value (rV one3)) w := by
  have h : (Instr.build 32 #[(0, .int .u8 1), (1, .int .u8 1), (2, .int .u8 1)]).run Tryd.prog w = .ok (rV one3) w := by kernel_rfl
  simp only [execOp, Sem.run_bind, Sem.run_pure, List.map_toArray, List.map_cons, List.map_nil, Act.eval, h, Result.andThen]
attribute [local go_sem ↓] exec_alloc_R exec_box_R exec_load_R exec_store_R exec_build_3
attribute [local go_sem] rV_cells
set_option maxHeartbeats 1000000 in
theorem alive_any (w : World) (ht : Tabs w) :
    Calls Tryd.prog 13 #[] w fun e w' => e = .returned (.bool true) ∧ Below w.heap.size w w' := by
  go_enter Tryd.func13, Tryd.ntmps13
  go_upto_region 2 with (go_at_call 11; refine (New_ab _ ht).mono ?_; rintro e w1 ⟨p, rfl, hb1, hl1⟩)
  have hl1d := hl1.below ((Below.refl _ w1))
  go_upto_region 5 with (first
    | (go_at_call 15; refine (Start_any p _ _ _ hl1).mono ?_; rintro e w2 ⟨rfl, hb2⟩; have hl2 := hl1.below hb2)
    | (go_at_call 17; refine (Step_any p [97, 98] 1 ab1 98 _ hl2 (startL_len _ _)).mono ?_; rintro e w3 ⟨rfl, hb3⟩))
  obtain ⟨w4, hst, hR4, hb4, hs4⟩ := keep_row w3 ab2 (stepL_len _ _ _ _)
  rw [show stepL [97, 98] 1 ab1 98 = ab2 from rfl, hst]
  have hl4 := (hl2.below hb3).below hb4
  have hld := loadR_at hR4.range (stepL_len _ _ _ _)
  clear hst
  go_upto_region 6 with (go_at_call 19; refine (Dist_any p _ _ ab2 _ hl4 (stepL_len _ _ _ _)).mono ?_; rintro e w5 ⟨rfl, hb5⟩)
  have hR5 := hR4.below (by omega) hb5
  have hl5 := hl4.below hb5
  have hld5 := loadR_at hR5.range (stepL_len _ _ _ _)
  clear hld hR4
  rw [ab2_dist.1, ab2_dist.2]
  have heq : ∀ W, (binOp .eql 32 (rV ab2) (rV one3)).run Tryd.prog W = .ok (.bool true) W := fun W => by
    rw [eql_row (bs := ab2) (cs := one3) (stepL_len _ _ _ _) (by decide) (by rw [ab2_is]; exact one3_byte) one3_byte W, ab2_is]
    simp
  have hgd : ∀ (x y : Operand) W, (eqGuard .eql 32 x y (rV ab2) (rV one3)).run Tryd.prog W = .ok () W := fun x y W => guard_row _ x y _ _ W
  go_wp2_with (first
    | (go_at_call 17; refine (Step_any p [97, 98] 1 ab2 120 _ hl5 (stepL_len _ _ _ _)).mono ?_; rintro e w6 ⟨rfl, hb6⟩; have hl6 := hl5.below hb6)
    | (go_at_call 22; refine (Alive_any p [97, 98] 1 ab3 _ hl6 (stepL_len _ _ _ _)).mono ?_; rintro e w7 ⟨rfl, hb7⟩; rw [show aliveB ([97, 98] : List Int).length 1 ab3 = false from ab3_dead]))
  go_ret
  exact ⟨rfl, hb1.trans ((hb2.trans ((hb3.trans ((hb4.trans ((hb5.trans ((hb6.trans (hb7.mono hb6.size)).mono hb5.size)).mono hb4.size)).mono hb3.size)).mono hb2.size)).mono hb1.size)⟩
theorem alive_acc {w0 w : World} (h : Acc w0 w) : Calls Tryd.prog 13 #[] w fun e w' => e = .returned (.bool true) ∧ Acc w0 w' := by
  refine (alive_any w h.tabs).mono ?_
  rintro e w' ⟨rfl, h2⟩
  exact ⟨rfl, h.step h2⟩
set_option maxHeartbeats 1000000 in
theorem Right_any (s : ByteArray) (e : Int) (w : World) (hm : s.size ≤ 9223372036854775807) :
    Calls Tryd.prog 12 #[.string s, .int .i64 e] w fun x w' => x = .returned (.bool (rightB s.data.toList e)) ∧ Below w.heap.size w w' := by
  obtain ⟨b, hb⟩ : ∃ b, wordB s.data.toList = b := ⟨_, rfl⟩
  have HB : Hid (wordB s.data.toList = b) := hb
  clear hb
  cases b
  all_goals
    go_enter Tryd.func12, Tryd.ntmps12
    go_wp2_with (go_at_call 25; refine (RefWord_any s _ hm).mono ?_; rintro x w1 ⟨rfl, hb1⟩; rw [HB.out])
    all_goals
      go_ret
      refine ⟨ret_bool ?_, hb1⟩
      rw [rightB, HB.out]
      first | (simp; done) | (simp; omega)
theorem Right_acc {w0 w : World} (h : Acc w0 w) (s : ByteArray) (e : Int) (hm : s.size ≤ 9223372036854775807) : Calls Tryd.prog 12 #[.string s, .int .i64 e] w fun x w' => x = .returned (.bool (rightB s.data.toList e)) ∧ Acc w0 w' := by
  refine (Right_any s e w hm).mono ?_
  rintro x w' ⟨rfl, h2⟩
  exact ⟨rfl, h.step h2⟩
set_option maxHeartbeats 1000000 in
theorem made_walk (s : ByteArray) (e : Int) (w : World) (ht : Tabs w) (hm : s.size ≤ 9223372036854775807) :
    Calls Tryd.prog 3 #[.string s, .int .i64 e] w fun x w' => x = .returned (.bool true) ∧ Below w.heap.size w w' := by
  have h0 := Acc.refl ht
  go_enter Tryd.func3, Tryd.ntmps3
  go_upto_region 2 with (go_at_call 11; refine (New_any s e _ ht hm).mono ?_; rintro x w1 ⟨v, c, rfl, hb1, hcase⟩)
  have h1 := h0.step hb1
  rcases hcase with ⟨hr, rfl, rfl⟩ | ⟨hr, rfl, p, xs, d, rfl, _, hx, hd, hl⟩
  · have HR : Hid (rightB s.data.toList e = false) := hr
    clear hr
    go_wp2_with (first
      | (go_at_call 12; refine (Right_acc (by assumption) s e hm).mono ?_; rintro x w2 ⟨rfl, h2⟩; rw [HR.out])
      | (go_at_call 13; refine (alive_acc (by assumption)).mono ?_; rintro x w3 ⟨rfl, h3⟩))
    go_ret
    exact ⟨rfl, h3.bel⟩
  · have HR : Hid (rightB s.data.toList e = true) := hr
    clear hr hx hd hl
    go_wp2_with (first
      | (go_at_call 12; refine (Right_acc (by assumption) s e hm).mono ?_; rintro x w2 ⟨rfl, h2⟩; rw [HR.out])
      | (go_at_call 13; refine (alive_acc (by assumption)).mono ?_; rintro x w3 ⟨rfl, h3⟩))
    go_ret
    exact ⟨rfl, h3.bel⟩
end Go.Proofs.YtfhmamalanloaaaDoor
