/- The slot's sectors: right. -/
import Derived.Test.YtpmmpdkeahmdiaaSecAll
import Derived.Stop.BytesEq
namespace Go.Proofs.Ytpmmpdkeahmdiaa
open Go.RowKit
set_option maxRecDepth 100000

theorem verC_cell {l : List Nat} (h : ∀ x ∈ l, x < 256) : verC l = ((l.map UInt8.ofNat).map Extern.Stop.cell).toArray := by
  unfold verC
  congr 1
  rw [List.map_map]
  refine List.map_congr_left fun x hx => ?_
  have hx2 := h x hx
  simp [Extern.Stop.cell, Nat.mod_eq_of_lt hx2]
theorem ofNat_inj : ∀ {l m : List Nat}, (∀ x ∈ l, x < 256) → (∀ x ∈ m, x < 256) → l.map UInt8.ofNat = m.map UInt8.ofNat → l = m
  | [], [], _, _, _ => rfl
  | [], _ :: _, _, _, h => by simp at h
  | _ :: _, [], _, _, h => by simp at h
  | x :: l, y :: m, h1, h2, h => by
    simp only [List.map_cons, List.cons.injEq] at h
    have hx := h1 x (.head _)
    have hy := h2 y (.head _)
    have h3 := congrArg UInt8.toNat h.1
    simp [Nat.mod_eq_of_lt hx, Nat.mod_eq_of_lt hy] at h3
    rw [h3, ofNat_inj (fun z hz => h1 z (.tail _ hz)) (fun z hz => h2 z (.tail _ hz)) h.2]
theorem eql_arr {t : TypeId} {n : Nat} (ht : Try.prog.underlying t = some (.array n 5)) {bs cs : List Nat} (hb : bs.length = n) (hc : cs.length = n) (h1 : ∀ x ∈ bs, x < 256) (h2 : ∀ x ∈ cs, x < 256) (w : World) :
    (binOp .eql t (verV bs) (verV cs)).run Try.prog w = .ok (.bool (decide (bs = cs))) w := by
  obtain ⟨i0, hi, hz0, hz1, hz2⟩ := info_parts infoByte
  have hsz : ∀ w, (sizeOf 5).run Try.prog w = .ok 1 w := fun w => by simp [sizeOf, typeInfo, hi, hz1, Result.andThen]
  unfold verV
  rw [verC_cell h1, verC_cell h2, run_eql_bytes w t 5 n ht Try.underlying5 hsz _ _ (by simpa using hb) (by simpa using hc)]
  congr 2
  rw [Bool.eq_iff_iff, beq_iff_eq, decide_eq_true_iff]
  exact ⟨ofNat_inj h1 h2, fun h => by rw [h]⟩
/-- What a sector's bytes say: the number, the value. -/
def secN (bs : List Nat) : Nat := leV (bs.take 8)
def secV (bs : List Nat) : List Nat := (bs.drop 9).take (bs.getD 8 0)
def RightS (bs : List Nat) (i : Nat) : Prop := secN bs ≠ 0 ∧ secN bs % 2 = i ∧ bs.getD 8 0 ≤ 48 ∧ bs = laySec (secN bs) (secV bs)
instance (bs : List Nat) (i : Nat) : Decidable (RightS bs i) := by unfold RightS; infer_instance
section
variable {md : Region.Mode} {ops : Array Oper} {Q : Exit → Act → World → Prop} {S : World → Prop}
/-- A load of a whole sector, taken first. -/
theorem take_S {i : Nat} {oi : Oper} {fuel : Nat} {listed : Array Bool} {tmps : Array Value} {df : List Deferred} {w : World} {b t0 : Nat} {bs : List Nat} (t : Tmp) (hi : ops[i]? = some oi) (hd : oi.dst = some t) (hop : oi.op = Op.load 104 (.tmp t0)) (ht : Act.eval { tmps := tmps, defers := df } (.tmp t0) = .pointer (some ⟨b, 0, none⟩))
    (hs : Region.noSelect ops = true) (hf : Region.free md ops listed i = true) (hr : (Region.ready md ops listed).contains i = true)
    (hQ : ∀ c' a w, Q (.panic c') (a.put oi.dst (verV bs)) w → Q (.panic c') a w) (hw : Region.wanted oi (yielded ops tmps) = true) (hl : bs.length = 64) (hSD : ∀ w, S w → ArrAt 104 w b bs) (hS : S w)
    (h : wpAnyH Try.prog md ops Q S fuel (listed.setIfInBounds i true) { tmps := tmps.setIfInBounds t (verV bs), defers := df } w) : wpAnyH Try.prog md ops Q S (fuel + 1) listed { tmps := tmps, defers := df } w := by
  refine take_at (v := verV bs) t hi hd hs hf hr hQ hw (fun W hW => ?_) hS h
  obtain ⟨dst, op, ty, pos, af, g⟩ := oi
  simp only at hop
  subst hop
  rw [exec_load_S, ht, loadS_at (hSD W hW) hl]
  rfl
end
theorem triv_arr {t : TypeId} {W : World} {b : Nat} {bs : List Nat} (_ : ArrAt t W b bs) : True := trivial
attribute [local go_sem ↓] exec_alloc_S exec_box_S exec_load_S exec_store_S
attribute [local go_sem] verV_cells
set_option maxHeartbeats 1000000 in
theorem right_any (bs : List Nat) (i : Nat) (w : World) (hl : bs.length = 64) (hx : ∀ x ∈ bs, x < 256) (hi : i < 2) :
    Calls Try.prog 53 #[verV bs, .int .i64 (i : Int)] w fun e w' => e = .returned (.bool (decide (RightS bs i))) ∧ Below w.heap.size w w' := by
  obtain ⟨w2, hw2⟩ : ∃ w2, w.alloc (.cells (verC bs) 104) = w2 := ⟨_, rfl⟩
  have A2 : Hid (ArrAt 104 w2 w.heap.size bs) := hw2 ▸ ArrAt.new _ w _
  have B2 : Hid (Below w.heap.size w w2) := hw2 ▸ (Below.refl _ w).alloc (Nat.le_refl _) _
  have HW : Hid (w.alloc (.cells (verC bs) 104) = w2) := hw2
  have HX : Hid (∀ x ∈ bs, x < 256) := hx
  have HL : Hid (bs.length = 64) := hl
  have hld := loadS_at A2.out hl
  rw [← hw2] at hld
  clear hw2 hx hl
  go_enter Try.func53, Try.ntmps53
  go_wp2_with fail
  rw [HW.out]
  clear HW hld
  refine (number_any bs w2 HL.out HX.out).mono ?_
  rintro e w3 ⟨rfl, hb3⟩
  have A3 : Hid (ArrAt 104 w3 w.heap.size bs) := A2.out.below A2.out.lt hb3
  have B3 : Hid (Below w.heap.size w w3) := B2.out.trans (hb3.mono B2.out.size)
  obtain ⟨n, hn⟩ : ∃ n, leV (bs.take 8) = n := ⟨_, rfl⟩
  have HN : Hid (secN bs = n) := hn
  rw [hn]
  obtain ⟨m, hm⟩ : ∃ m, bs.getD 8 0 = m := ⟨_, rfl⟩
  have HM : Hid (bs.getD 8 0 = m) := hm
  have hc8 := A3.out.cell (i := 8) (by have := HL.out; omega)
  rw [hm] at hc8
  have hlt := A3.out.lt
  have hm256 : m < 256 := by
    rw [← hm, List.getD_eq_getElem?_getD, List.getElem?_eq_getElem (by have := HL.out; omega)]
    exact HX.out _ (List.getElem_mem _)
  have ht1 : Int.tmod (n : Int) 2 = ((n % 2 : Nat) : Int) := by rw [Int.tmod_eq_emod_of_nonneg (by omega)]; rfl
  clear hn hm hb3 A2 B2
  by_cases h0 : n = 0
  · subst h0
    go_wp2_with fail
    go_ret
    have hR : decide (RightS bs i) = false := decide_eq_false fun h => h.1 HN.out
    exact ⟨by rw [hR]; rfl, B3.out⟩
  · have h0' : ((n : Int) == 0) = false := by rw [Bool.eq_false_iff]; intro h; have := beq_iff_eq.1 h; omega
    obtain ⟨n2, hn2⟩ : ∃ n2, n % 2 = n2 := ⟨_, rfl⟩
    have hn22 : n2 < 2 := by rw [← hn2]; omega
    have ht2 : (n : Int) % 2 = (n2 : Int) := by omega
    rw [hn2] at ht1
    by_cases h1 : n2 = i
    · subst h1
      by_cases h2 : m ≤ 48
      · go_wp2_with fail
        have A3d : ArrAt 104 w3.drew w.heap.size bs := A3.out
        refine region_at (S := fun W => ArrAt 104 W w.heap.size bs) 7 rfl (by kernel_rfl) A3d (fun hHeld => ?_)
        refine take_S (i := 0) 22 rfl rfl rfl rfl (by kernel_rfl) (by kernel_rfl) (by kernel_rfl) (fun _ _ _ h => h) (by rfl) HL.out (fun _ h => h) hHeld ?_
        simp only [List.setIfInBounds_toArray, List.set_cons_zero, List.set_cons_succ]
        refine take_at (i := 1) 23 rfl rfl (by kernel_rfl) (by kernel_rfl) (by kernel_rfl) (fun _ _ _ h => h) (by rfl) (fun w hSw => by (have hSw2 := triv_arr hSw; clear hSw; go_simp; first | done | exact rfl)) (by assumption) ?_
        simp only [List.setIfInBounds_toArray, List.set_cons_zero, List.set_cons_succ]
        refine take_S (i := 2) 24 rfl rfl rfl rfl (by kernel_rfl) (by kernel_rfl) (by kernel_rfl) (fun _ _ _ h => h) (by rfl) HL.out (fun _ h => h) hHeld ?_
        simp only [List.setIfInBounds_toArray, List.set_cons_zero, List.set_cons_succ]
        refine one_call (i := 3) (w0 := w3.drew) 25 55 #[verV bs] (by kernel_rfl) rfl rfl (by rfl) (by kernel_rfl) ?_
        refine (value_any bs w3.drew HL.out m HM.out h2).mono ?_
        rintro e w4 ⟨rfl, rfl⟩
        have hV4 := ArrAt.new 104 w3.drew bs
        have A4 := A3d.old (.cells (verC bs) 104)
        have B4 : Below w.heap.size w (w3.drew.alloc (.cells (verC bs) 104)) := B3.out.drew.alloc B3.out.size _
        obtain ⟨w4, hw4⟩ : ∃ w4, w3.drew.alloc (.cells (verC bs) 104) = w4 := ⟨_, rfl⟩
        rw [hw4] at hV4 A4 B4
        rw [hw4]
        refine ⟨_, rfl, A4, fun _ => ?_⟩
        simp only [List.setIfInBounds_toArray, List.set_cons_zero, List.set_cons_succ]
        have hrow := hV4.row 9 m 55 (by have := HL.out; omega) (by omega) hV4.lt
        have hvs : (bs.drop 9).take m = secV bs := by rw [secV, HM.out]
        rw [hvs] at hrow
        have hvl : (secV bs).length = m := by rw [← hvs]; have := HL.out; simp; omega
        have hvx : ∀ x ∈ secV bs, x < 256 := fun x hx => HX.out x (List.mem_of_mem_drop (List.mem_of_mem_take hx))
        refine one_call (i := 4) (w0 := w4) 26 56 #[.int .u64 (n : Int), .slice (some ⟨w3.drew.heap.size, 9, none⟩) m 55] (by kernel_rfl) rfl rfl (by rfl) (by kernel_rfl) ?_
        refine (lay_any w4.heap.size n _ (secV bs) w4 hrow (Nat.le_refl _) hvx (by omega)).mono ?_
        rintro e w5 ⟨rfl, hb5⟩
        have A5 := A4.below A4.lt hb5
        have B5 : Below w.heap.size w w5 := B4.trans (hb5.mono B4.size)
        refine ⟨_, rfl, A5, fun _ => ?_⟩
        simp only [List.setIfInBounds_toArray, List.set_cons_zero, List.set_cons_succ]
        obtain ⟨cs, hcs⟩ : ∃ cs, laySec n (secV bs) = cs := ⟨_, rfl⟩
        have hcl : cs.length = 64 := by rw [← hcs]; exact lay_len (by omega)
        have hcx : ∀ x ∈ cs, x < 256 := by rw [← hcs]; exact lay_byte (by omega) hvx
        rw [hcs]
        have heq : ∀ W, (binOp .eql 104 (verV bs) (verV cs)).run Try.prog W = .ok (.bool (decide (bs = cs))) W := fun W => eql_arr Try.underlying104 HL.out hcl HX.out hcx W
        have hgd : ∀ (x y : Operand) W, (eqGuard .eql 104 x y (verV bs) (verV cs)).run Try.prog W = .ok () W := fun x y W => run_eqGuard_agg W _ _ x y _ _ (by kernel_rfl)
        have hR : decide (RightS bs n2) = decide (bs = cs) := by
          refine decide_eq_decide.2 ⟨fun h => by rw [← hcs, ← HN.out]; exact h.2.2.2, fun h => ⟨by rw [HN.out]; exact h0, by rw [HN.out]; exact hn2, by rw [HM.out]; exact h2, by rw [HN.out, hcs]; exact h⟩⟩
        obtain ⟨bq, hbq⟩ : ∃ bq, decide (bs = cs) = bq := ⟨_, rfl⟩
        rw [hbq] at hR
        simp only [hbq] at heq
        clear hbq hcs
        refine take_at (i := 5) 27 rfl rfl (by kernel_rfl) (by kernel_rfl) (by kernel_rfl) (fun _ _ _ h => h) (by rfl) (fun w hSw => by (have hSw2 := triv_arr hSw; clear hSw; go_simp; first | done | exact rfl)) (by assumption) ?_
        simp only [List.setIfInBounds_toArray, List.set_cons_zero, List.set_cons_succ]
        refine take_at (i := 6) 4 rfl rfl (by kernel_rfl) (by kernel_rfl) (by kernel_rfl) (fun _ _ _ h => h) (by rfl) (fun w hSw => by (clear hSw; go_simp; first | done | exact rfl)) (by assumption) ?_
        simp only [List.setIfInBounds_toArray, List.set_cons_zero, List.set_cons_succ]
        refine wpAnyH_done (by kernel_rfl) ?_ _
        clear heq hgd hHeld
        go_wp2_with fail
        go_ret
        exact ⟨by rw [hR]; rfl, B5⟩
      · go_wp2_with fail
        go_ret
        have hR : decide (RightS bs n2) = false := decide_eq_false fun h => h2 (HM.out ▸ h.2.2.1)
        exact ⟨by rw [hR]; rfl, B3.out⟩
    · have h1' : ((n2 : Int) != (i : Int)) = true := by rw [bne_iff_ne]; omega
      go_wp2_with fail
      go_ret
      have hR : decide (RightS bs i) = false := decide_eq_false fun h => h1 (by rw [← hn2, ← HN.out]; exact h.2.1)
      exact ⟨by rw [hR]; rfl, B3.out⟩
end Go.Proofs.Ytpmmpdkeahmdiaa
